/-
  newSubst, by a contract: its makers.
-/
import Derived.Test.YtegdloenakachaaGreatDoorCN27
import Derived.Test.YtegdloenakachaaGreatDoorCN24
import Derived.Test.YtegdloenakachaaGreatDoorCN21
import Derived.Test.YtegdloenakachaaGreatDoorCN08
import Derived.Test.YtegdloenakachaaGreatDoorCN03
import Derived.Deep.RegionHeld3
namespace Go.Proofs.YtegdloenakachaaGreatDoor
open Go.RowKit Go.Shelf Go.Maps
set_option linter.unusedVariables false

theorem wrapS7 (x : Int) (h0 : -9223372036854775808 ≤ x) (h1 : x ≤ 9223372036854775807) : IntKind.i64.wrap x = x := by
  simp [IntKind.wrap, IntKind.signed, IntKind.bits]
  omega
/-- What the makers have made: where it lies. -/
structure Mk (w X : World) (e : Nat) (b : Tr (e + 1)) (T : List (List UInt8)) (v : Value) (lob hib m fr tk fh cf ct : Nat) : Prop where
  below : Below w.heap.size w X
  by_ : OwV X (e + 1) b v lob hib
  sc : FrMap X m 0 (fnd [])
  fre : SetIs X fr cf (freeM (e + 1) b [])
  tak : SetIs X tk ct (fun x => decide (x ∈ T))
  fsh : NumMap X fh 0 (fun _ => 0)
  zb : w.heap.size ≤ lob
  lh : lob ≤ hib
  hS : hib ≤ X.heap.size
  zm : w.heap.size ≤ m
  zr : w.heap.size ≤ fr
  zt : w.heap.size ≤ tk
  zf : w.heap.size ≤ fh
  mr : m ≠ fr
  mt : m ≠ tk
  mf : m ≠ fh
  rt : fr ≠ tk
  rf : fr ≠ fh
  tf : tk ≠ fh
  bm : m < lob ∨ hib ≤ m
  bf : fh < lob ∨ hib ≤ fh
  br : fr < lob ∨ hib ≤ fr
  bt : tk < lob ∨ hib ≤ tk
  cfb : cf ≤ sizeM (e + 1) b
  ctb : ct ≤ T.length
/-- One world behind another. -/
def Nx (X Y : World) : Prop := Below X.heap.size X Y
theorem Nx.trans {X Y Z : World} (h : Nx X Y) (k : Nx Y Z) : Nx X Z := Below.trans h (Below.mono k (Below.size h))
theorem Nx.refl (X : World) : Nx X X := Below.refl _ _
theorem Nx.drew (X : World) : Nx X X.drew := (Below.refl _ _).drew
theorem Nx.alloc (X : World) (o : Obj) : Nx X (X.alloc o) := below1 X o
theorem Nx.lt {X Y : World} (h : Nx X Y) : X.heap.size ≤ Y.heap.size := Below.size h
theorem OwV_kept {X Y : World} {d : Nat} {t : Tr d} {v : Value} {lo hi : Nat} (h : OwV X d t v lo hi) (hk : ∀ k, lo ≤ k → k < hi → Y.heap[k]? = X.heap[k]?) : OwV Y d t v lo hi := by
  match d, t, h with
  | d + 1, t, h =>
    obtain ⟨m1, m2, m3, o3, c3, o4, c4, o5, c5, o6, c6, a1, a2, a3, a4, a5, a6, a7, a8, a9⟩ := h
    refine ⟨m1, m2, m3, o3, c3, o4, c4, o5, c5, o6, c6, a1, a2, a3, a4, a5, a6.same (fun k h1 h2 => hk k (by omega) (by omega)), a7.same (fun k h1 h2 => hk k (by omega) (by omega)) ?_, a8.same (fun k h1 h2 => hk k (by omega) (by omega)) ?_, a9.same (fun k h1 h2 => hk k (by omega) (by omega)) ?_⟩
    · rintro x g off a b hg1 hg2 ha hb2 ⟨e1, e2⟩
      have hc := fun j => cell_of_block (hk g (by omega) (by omega)) j
      exact ⟨(hc _).trans e1, OwEx.same d _ _ _ _ _ e2 (fun q _ => hc _) (fun k h1 h2 => hk k (by omega) (by omega))⟩
    · intro x g off a b hg1 hg2 ha hb2 e
      have hc := fun j => cell_of_block (hk g (by omega) (by omega)) j
      exact OwEx.same d _ _ _ _ _ e (fun q _ => hc _) (fun k h1 h2 => hk k (by omega) (by omega))
    · rintro x g off a b hg1 hg2 ha hb2 ⟨e1, e2, e3, m, q1, q2, ⟨o, c, e4, e5⟩, e6⟩
      have hc := fun j => cell_of_block (hk g (by omega) (by omega)) j
      exact ⟨(hc _).trans e1, (hc _).trans e2, (hc _).trans e3, m, q1, q2, ⟨o, c, (hc _).trans e4, e5.same (fun k h1 h2 => hk k (by omega) (by omega))⟩, OwEx.same d _ _ _ _ _ e6 (fun q _ => hc _) (fun k h1 h2 => hk k (by omega) (by omega))⟩
theorem OwV_later {X Y : World} {d : Nat} {t : Tr d} {v : Value} {lo hi : Nat} (h : OwV X d t v lo hi) (hb : Nx X Y) (hh : hi ≤ X.heap.size) : OwV Y d t v lo hi := OwV_kept h (fun k _ hk => Below.block hb k (by omega))
theorem OwV_at {W : World} {d : Nat} {t : Tr d} {v0 v1 v2 v3 v4 v5 v6 : Value} {lo hi S : Nat} (h : OwV W d t (.agg #[v0, v1, v2, v3, v4, v5, v6]) lo hi) (k0 : W.cell? ⟨S, 1, none⟩ = some v0) (k1 : W.cell? ⟨S, 2, none⟩ = some v1) (k2 : W.cell? ⟨S, 3, none⟩ = some v2) (k3 : W.cell? ⟨S, 4, none⟩ = some v3) (k4 : W.cell? ⟨S, 5, none⟩ = some v4) (k5 : W.cell? ⟨S, 6, none⟩ = some v5) (k6 : W.cell? ⟨S, 7, none⟩ = some v6) : OwEx W d t S 1 lo hi := by
  match d, t, h with
  | d + 1, t, h =>
    obtain ⟨m1, m2, m3, o3, c3, o4, c4, o5, c5, o6, c6, a1, a2, a3, a4, a5, a6, a7, a8, a9⟩ := h
    cases a5
    exact ⟨k0, k1, k2, m1, m2, m3, a1, a2, a3, a4, ⟨o3, c3, k3, a6⟩, ⟨o4, c4, k4, a7⟩, ⟨o5, c5, k5, a8⟩, ⟨o6, c6, k6, a9⟩⟩
theorem mk_of {w X X1 X2 X3 X4 X5 xa xb xc xd xe : World} {e : Nat} {b : Tr (e + 1)} {T : List (List UInt8)} {v : Value} {m fr cf ct fh tk : Nat} (htk : tk = X5.heap.size) (l1 : Nx w X1) (hov : OwV xa (e + 1) b v X1.heap.size xa.heap.size) (hA : Nx X1 xa) (l2 : Nx xa X2) (hB : Nx X2 xb) (l3 : Nx xb X3) (hm : X3.heap.size ≤ m) (hfm : FrMap xc m 0 (fnd [])) (hC : Nx X3 xc) (l4 : Nx xc X4)
    (hf1 : X4.heap.size ≤ fr) (hf2 : cf ≤ sizeM (e + 1) b) (hf3 : SetIs xd fr cf (freeM (e + 1) b [])) (hD : Nx X4 xd) (l5 : Nx xd X5) (hE : Nx X5 xe) (hn1 : ct ≤ T.length) (hn2 : SetIs xe X5.heap.size ct (fun x => decide (x ∈ T))) (l6 : Nx xe X) (hN : NumMap X fh 0 (fun _ => 0)) (hz : w.heap.size ≤ fh) (h1 : fh < X1.heap.size ∨ xa.heap.size ≤ fh) (h2 : fh < X3.heap.size ∨ xc.heap.size ≤ fh) (h3 : fh < X4.heap.size ∨ xd.heap.size ≤ fh) (h4 : fh < X5.heap.size ∨ xe.heap.size ≤ fh) :
    Mk w X e b T v X1.heap.size xa.heap.size m fr tk fh cf ct := by
  subst htk
  have c5 : Nx xe X := l6
  have c4 : Nx xd X := (l5.trans hE).trans c5
  have c3 : Nx xc X := (l4.trans hD).trans c4
  have c2 : Nx xa X := ((l2.trans hB).trans (l3.trans hC)).trans c3
  have s1 := l1.lt; have s2 := hA.lt; have s3 := l2.lt; have s4 := hB.lt; have s5 := l3.lt; have s6 := hC.lt; have s7 := l4.lt; have s8 := hD.lt; have s9 := l5.lt; have s10 := hE.lt; have s11 := l6.lt
  have g1 := hfm.lt; have g2 := hf3.lt; have g3 := hn2.lt
  exact ⟨(l1.trans hA).trans c2, OwV_later hov c2 (Nat.le_refl _), hfm.same (Below.block c3 m g1), hf3.same (Below.block c4 fr g2), hn2.same (Below.block c5 _ g3), hN, s1, s2, by omega, by omega, by omega, by omega, hz, by omega, by omega, by omega, by omega, by omega, by omega, by omega, h1, by omega, by omega, hf2, hn1⟩
/-- Behind the makers: the substitution's own block S. -/
def NsR (w W : World) (S e : Nat) (b : Tr (e + 1)) (T : List (List UInt8)) (name : ByteArray) (room : Int) : Prop :=
  ∃ (X : World) (v0 v1 v2 v3 v4 v5 v6 : Value) (m fr tk fh cf ct : Nat), (∃ lob hib, Mk w X e b T (.agg #[v0, v1, v2, v3, v4, v5, v6]) lob hib m fr tk fh cf ct) ∧ S = X.heap.size ∧ W = X.alloc (.cells #[.string name, v0, v1, v2, v3, v4, v5, v6, .int .i64 room, .pointer none, .map (some m), .map (some fr), .map (some tk), .map (some fh), .int .i64 0] 110)
theorem below_but {w X Y : World} {tk : Nat} (h : Below w.heap.size w X) (k : But tk X Y) (ht : w.heap.size ≤ tk) : Below w.heap.size w Y := ⟨k.os.trans h.os, k.tape.trans h.tape, k.output.trans h.output, Nat.le_trans h.size k.size, fun j hj => (k.block j (by have := h.size; omega) (by omega)).trans (h.block j hj)⟩
/-- A substitution that was just made. -/
def NewSub (w W' : World) (S e : Nat) (b : Tr (e + 1)) (L : List (List UInt8)) (name : ByteArray) (room : Int) : Prop := ∃ P : SbP, P.S = S ∧ P.Z = w.heap.size ∧ P.name = name ∧ SbSt W' P (e + 1) b (freeM (e + 1) b []) L 0 [] room (fun _ => 0) 0 0 ∧ Below w.heap.size w W'
/-- From what the makers made, and the names that were put together. -/
theorem newSub_of {w X wc W' : World} {S e : Nat} {b : Tr (e + 1)} {T L : List (List UInt8)} {name : ByteArray} {room : Int} {v0 v1 v2 v3 v4 v5 v6 : Value} {lob hib m fr tk fh cf ct c' : Nat} (hM : Mk w X e b T (.agg #[v0, v1, v2, v3, v4, v5, v6]) lob hib m fr tk fh cf ct) (hS : S = X.heap.size) (hW : wc = X.alloc (.cells #[.string name, v0, v1, v2, v3, v4, v5, v6, .int .i64 room, .pointer none, .map (some m), .map (some fr), .map (some tk), .map (some fh), .int .i64 0] 110))
    (hL : ∀ x, decide (x ∈ L) = (decide (x ∈ T) || freeM (e + 1) b [] x)) (hgt : GT w) (hs : SetIs W' tk c' (fun x => decide (x ∈ T) || freeM (e + 1) b [] x)) (hb : But tk wc W') : NewSub w W' S e b L name room := by
  subst hS
  have g1 := hM.sc.lt; have g2 := hM.fre.lt; have g3 := hM.tak.lt; have g4 := hM.fsh.lt; have g5 := hM.hS
  have hX : ∀ k, k < X.heap.size → k ≠ tk → W'.heap[k]? = X.heap[k]? := fun k hk hn => by
    rw [hb.block k (by rw [hW]; simp; omega) hn, hW]; exact Below.heap_alloc X _ k hk
  have hK : Blk W' X.heap.size #[.string name, v0, v1, v2, v3, v4, v5, v6, .int .i64 room, .pointer none, .map (some m), .map (some fr), .map (some tk), .map (some fh), .int .i64 0] 110 := by
    have h1 : W'.heap[X.heap.size]? = wc.heap[X.heap.size]? := hb.block _ (by rw [hW]; simp) (by omega)
    unfold Blk
    rw [h1, hW]
    exact Blk.new X _ _
  have hBX : Below w.heap.size w W' := below_but (by rw [hW]; exact hM.below.alloc hM.below.size _) hb hM.zt
  have hz := hM.below.size
  have hov : OwV W' (e + 1) b (.agg #[v0, v1, v2, v3, v4, v5, v6]) lob hib := by
    refine OwV_kept hM.by_ (fun k h1 h2 => hX k (by omega) ?_)
    have := hM.bt
    omega
  have hgl := hgt.2
  refine ⟨⟨X.heap.size, m, fr, tk, fh, w.heap.size, lob, hib, name⟩, rfl, rfl, rfl, ⟨⟨hM.zb, hM.lh, hM.hS, hM.zm, hM.zr, hM.zt, hM.zf, g1, g2, g3, g4, hM.mr, hM.mt, hM.mf, hM.rf, hM.tf, hM.bm, hM.bf⟩, hgt.same (hBX.block _ hgl) hBX.size, ⟨by show _ ≠ X.heap.size; omega, by show _ ≠ m; have := hM.zm; omega, by show _ ≠ fh; have := hM.zf; omega⟩, ⟨by show X.heap.size ≠ m; omega, hK.cell 9 _ rfl, hK.frozen 9, hK.cell 10 _ rfl, hM.sc.same (hX m g1 hM.mt), trivial, hK.lt⟩, fun j => hK.frozen j, hK.cell 0 _ rfl, OwV_at hov (hK.cell 1 _ rfl) (hK.cell 2 _ rfl) (hK.cell 3 _ rfl) (hK.cell 4 _ rfl) (hK.cell 5 _ rfl) (hK.cell 6 _ rfl) (hK.cell 7 _ rfl), hK.cell 8 _ rfl, hK.cell 11 _ rfl, hK.cell 12 _ rfl, hK.cell 13 _ rfl, hK.cell 14 _ rfl, ⟨cf, hM.fre.same (hX fr g2 hM.rt)⟩, ⟨c', ?_⟩, hM.fsh.same (hX fh g4 hM.tf.symm)⟩, hBX⟩
  have e1 : (fun x => decide (x ∈ L)) = fun x => decide (x ∈ T) || freeM (e + 1) b [] x := funext hL
  show SetIs W' tk c' (fun x => decide (x ∈ L))
  rw [e1]
  exact hs
theorem up2 {Z X X' : World} (h : Hid (Below Z.heap.size Z X)) (k : Below X.heap.size X X') : Hid (Below Z.heap.size Z X') := h.out.trans (k.mono h.out.size)
set_option maxHeartbeats 8000000 in
set_option maxRecDepth 100000 in
theorem newSubst_c (L : List (List UInt8)) (d : Nat) (t : Tr (d + 1)) (e : Nat) (b : Tr (e + 1)) (name : ByteArray) (B g off gb offb : Nat) (w : World) (hE : ExAt w B (d + 1) t g off) (hB : ExAt w B (e + 1) b gb offb) (hw : B ≤ w.heap.size) (hFt : Fit (d + 1) t) (hFb : Fit (e + 1) b) (hNb : NmOK (e + 1) b) (hcb : 2 * costM (e + 1) b ≤ 2000000) (hsb : sizeM (e + 1) b ≤ 1048576) (hst : sizeM (d + 1) t ≤ 1048576) (hd : d + 1 ≤ 4096) (hlen : (allN ownN (d + 1) t).length ≤ 1000000) (hL : ∀ x, decide (x ∈ L) = (decide (x ∈ allN ownN (d + 1) t) || freeM (e + 1) b [] x)) (hgt : GT w) :
    Calls Tryz.prog 33 #[.pointer (some ⟨g, off, none⟩), .string name, .pointer (some ⟨gb, offb, none⟩)] w fun r w' => ∃ S, r = .returned (.pointer (some ⟨S, 0, none⟩)) ∧ NewSub w w' S e b L name ((1048576 : Int) - (sizeM (d + 1) t : Int)) := by
  have hdep : Tryz.prog.follows Departure.mixedOrders = true := by kernel_rfl
  have hmm : ∀ W : World, (Instr.makeMap 108 none).run Tryz.prog W = .ok (.map (some W.heap.size)) (W.alloc (.map #[] 0)) := fun W => rfl
  have HEX : Hid (∀ X, Below w.heap.size w X → ExAt X X.heap.size (d + 1) t g off ∧ ExAt X X.heap.size (e + 1) b gb offb) := fun X hX => ⟨ExAt.up (by have := hX.size; omega) _ _ _ _ (ExAt.same (fun g' off' hg' => cell_of_block (hX.block g' (by omega)) off') _ _ _ _ hE), ExAt.up (by have := hX.size; omega) _ _ _ _ (ExAt.same (fun g' off' hg' => cell_of_block (hX.block g' (by omega)) off') _ _ _ _ hB)⟩
  obtain ⟨hgB, e0, e1, e2, ⟨o3, c3, e3, r3⟩, ⟨o4, c4, e4, r4⟩, ⟨o5, c5, e5, r5⟩, ⟨o6, c6, e6, r6⟩⟩ := id hE
  have HV : Hid (∀ X, Below w.heap.size w X → ExVal X B d t (.agg #[.int .i64 (TrN.kind t), .string (TrN.name t), .int .i64 (TrN.num t), .slice o3 (TrN.params t).length c3, .slice o4 (TrN.binds t).length c4, .slice o5 (TrN.args t).length c5, .slice o6 (TrN.alts t).length c6])) := fun X hX => ExVal.same (W := w) ⟨o3, c3, o4, c4, o5, c5, o6, c6, rfl, r3, r4, r5, r6⟩ (fun g' off' hg' => cell_of_block (hX.block g' (by omega)) off')
  have hgw : g < w.heap.size := by omega
  have hgbw : gb < w.heap.size := by have := hB.lt; omega
  have HC1 : Hid (∀ X : World, Hid (Below w.heap.size w X) → Calls Tryz.prog 31 #[.pointer (some ⟨gb, offb, none⟩)] X fun r X' => ∃ p3 q3 p4 q4 p5 q5 p6 q6, r = .returned (.agg #[.int .i64 (TrN.kind b), .string (TrN.name b), .int .i64 (TrN.num b), .slice p3 (TrN.params b).length q3, .slice p4 (TrN.binds b).length q4, .slice p5 (TrN.args b).length q5, .slice p6 (TrN.alts b).length q6]) ∧ OwV X' (e + 1) b (.agg #[.int .i64 (TrN.kind b), .string (TrN.name b), .int .i64 (TrN.num b), .slice p3 (TrN.params b).length q3, .slice p4 (TrN.binds b).length q4, .slice p5 (TrN.args b).length q5, .slice p6 (TrN.alts b).length q6]) X.heap.size X'.heap.size ∧ Below X.heap.size X X') := fun X hX => by
    refine (copiedOK (e + 1) b X.heap.size gb offb X (HEX.out X hX.out).2 (Nat.le_refl _) hFb).mono ?_
    rintro r X' ⟨v, rfl, h1, h2⟩
    obtain ⟨m1, m2, m3, p3, q3, p4, q4, p5, q5, p6, q6, a1, a2, a3, a4, rfl, a5⟩ := id h1
    exact ⟨p3, q3, p4, q4, p5, q5, p6, q6, rfl, h1, h2⟩
  have HC2 : Hid (∀ X : World, Hid (Below w.heap.size w X) → Calls Tryz.prog 15 #[.agg #[.int .i64 (TrN.kind t), .string (TrN.name t), .int .i64 (TrN.num t), .slice o3 (TrN.params t).length c3, .slice o4 (TrN.binds t).length c4, .slice o5 (TrN.args t).length c5, .slice o6 (TrN.alts t).length c6]] X fun r X' => r = .returned (.int .i64 (sizeM (d + 1) t : Int)) ∧ Below X.heap.size X X') := fun X hX => Size_c d t _ B X (HV.out X hX.out) (by have := hX.out.size; omega) hst hd
  have HC3 : Hid (∀ X : World, Calls Tryz.prog 60 #[] X fun r X' => ∃ m, r = .returned (.agg #[.pointer none, .map (some m)]) ∧ X.heap.size ≤ m ∧ FrMap X' m 0 (fnd []) ∧ Below X.heap.size X X') := newScope_c
  have HC4 : Hid (∀ X : World, Hid (Below w.heap.size w X) → Calls Tryz.prog 32 #[.pointer (some ⟨gb, offb, none⟩)] X fun r X' => ∃ f cf, r = .returned (.map (some f)) ∧ X.heap.size ≤ f ∧ cf ≤ sizeM (e + 1) b ∧ SetIs X' f cf (freeM (e + 1) b []) ∧ Below X.heap.size X X') := fun X hX => freeIn_c (e + 1) b hNb hcb (by omega) X.heap.size gb offb X (HEX.out X hX.out).2 (Nat.le_refl _) (by have := hX.out.size; omega)
  have HC5 : Hid (∀ X : World, Hid (Below w.heap.size w X) → Calls Tryz.prog 61 #[.pointer (some ⟨g, off, none⟩)] X fun r X' => r = .returned (.map (some X.heap.size)) ∧ Below X.heap.size X X' ∧ ∃ c, c ≤ (allN ownN (d + 1) t).length ∧ SetIs X' X.heap.size c (fun x => decide (x ∈ allN ownN (d + 1) t))) := fun X hX => namesIn_c (d + 1) t X.heap.size g off X (HEX.out X hX.out).1 (Nat.le_refl _) hFt (by omega)
  have hmk : Hid (∀ X : World, Hid (Below w.heap.size w X) → (Hid (Below w.heap.size w X) ∧ X.cell? ⟨g, off, none⟩ = some (.int .i64 (TrN.kind t)) ∧ X.cell? ⟨g, off + 1, none⟩ = some (.string (TrN.name t)) ∧ X.cell? ⟨g, off + 2, none⟩ = some (.int .i64 (TrN.num t)) ∧ X.cell? ⟨g, off + 3, none⟩ = some (.slice o3 (TrN.params t).length c3) ∧ X.cell? ⟨g, off + 4, none⟩ = some (.slice o4 (TrN.binds t).length c4) ∧ X.cell? ⟨g, off + 5, none⟩ = some (.slice o5 (TrN.args t).length c5) ∧ X.cell? ⟨g, off + 6, none⟩ = some (.slice o6 (TrN.alts t).length c6))) := fun X hX =>
    ⟨hX, (cell_of_block (hX.out.block g hgw) _).trans e0, (cell_of_block (hX.out.block g hgw) _).trans e1, (cell_of_block (hX.out.block g hgw) _).trans e2, (cell_of_block (hX.out.block g hgw) _).trans e3, (cell_of_block (hX.out.block g hgw) _).trans e4, (cell_of_block (hX.out.block g hgw) _).trans e5, (cell_of_block (hX.out.block g hgw) _).trans e6⟩
  have hal : Hid (∀ (X : World) (o : Obj), Hid (Below w.heap.size w X) → Hid (Below w.heap.size w (X.alloc o))) := fun X o hX => hX.out.alloc hX.out.size _
  have hB0 : Hid (Below w.heap.size w w) := Below.refl _ _
  have hBd : Hid (Below w.heap.size w w.drew) := (Below.refl _ _).drew
  have hBad : Hid (Below w.heap.size w (w.alloc (.map #[] 0)).drew) := (below1 w _).drew
  have hwr := wrapS7 ((1048576 : Int) - (sizeM (d + 1) t : Int)) (by omega) (by omega)
  have HT : Hid ((∀ x, decide (x ∈ L) = (decide (x ∈ allN ownN (d + 1) t) || freeM (e + 1) b [] x)) ∧ (allN ownN (d + 1) t).length ≤ 1000000 ∧ GT w ∧ sizeM (e + 1) b ≤ 1048576) := ⟨hL, hlen, hgt, hsb⟩
  clear hL hgt hE hB hFt hFb hNb hcb hsb hst hd hlen e0 e1 e2 e3 e4 e5 e6 r3 r4 r5 r6 HV HEX
  generalize (sizeM (d + 1) t : Int) = sz at *
  generalize allN ownN (d + 1) t = T at *
  generalize (TrN.params t).length = n3 at *
  generalize (TrN.binds t).length = n4 at *
  generalize (TrN.args t).length = n5 at *
  generalize (TrN.alts t).length = n6 at *
  go_enter Tryz.func33, Tryz.ntmps33
  go_upto_region 1 with fail
  go_cut [7] from 8 (fun v7 W => ∃ S : Nat, v7 = .pointer (some ⟨S, 0, none⟩) ∧ Hid (NsR w W S e b T name ((1048576 : Int) - sz)))
  case first =>
    go_region_held3 (fun X : World => Hid (Below w.heap.size w X) ∧ X.cell? ⟨g, off, none⟩ = some (.int .i64 (TrN.kind t)) ∧ X.cell? ⟨g, off + 1, none⟩ = some (.string (TrN.name t)) ∧ X.cell? ⟨g, off + 2, none⟩ = some (.int .i64 (TrN.num t)) ∧ X.cell? ⟨g, off + 3, none⟩ = some (.slice o3 n3 c3) ∧ X.cell? ⟨g, off + 4, none⟩ = some (.slice o4 n4 c4) ∧ X.cell? ⟨g, off + 5, none⟩ = some (.slice o5 n5 c5) ∧ X.cell? ⟨g, off + 6, none⟩ = some (.slice o6 n6 c6))
      (first
        | with_reducible exact hmk.out _ hSe
        | with_reducible exact hmk.out _ hSd
        | with_reducible exact hmk.out _ hSc
        | with_reducible exact hmk.out _ hSb
        | with_reducible exact hmk.out _ hSa
        | with_reducible exact hmk.out _ hBd
        | with_reducible exact hmk.out _ hB0
        | with_reducible exact hmk.out _ (hal.out _ _ (And.left (by with_reducible assumption)))
        | with_reducible exact hmk.out _ (hal.out _ _ hSe)
        | with_reducible exact hmk.out _ (hal.out _ _ hSd)
        | with_reducible exact hmk.out _ (hal.out _ _ hSc)
        | with_reducible exact hmk.out _ (hal.out _ _ hSb)
        | with_reducible exact hmk.out _ (hal.out _ _ hSa)
        | with_reducible exact hmk.out _ hBad
        | with_reducible exact hmk.out _ (hal.out _ _ hBd)
        | with_reducible exact hmk.out _ (hal.out _ _ (hal.out _ _ hSe)))
      (first
        | (go_at_call 31; refine (HC1.out _ (And.left (by with_reducible assumption))).mono ?_; rintro r xa ⟨p3, q3, p4, q4, p5, q5, p6, q6, rfl, hov, hb⟩; have hSa : Hid (Below w.heap.size w xa) := up2 (And.left (by with_reducible assumption)) hb; have HFa : Hid (_ ∧ _) := ⟨hov, hb⟩; clear hov hb)
        | (go_at_call 15; refine (HC2.out _ (And.left (by with_reducible assumption))).mono ?_; rintro r xb ⟨rfl, hb⟩; have hSb : Hid (Below w.heap.size w xb) := up2 (And.left (by with_reducible assumption)) hb; have HFb : Hid (_) := hb; clear hb)
        | (go_at_call 60; refine (HC3.out _).mono ?_; rintro r xc ⟨m, rfl, hm, hfm, hb⟩; have hSc : Hid (Below w.heap.size w xc) := up2 (And.left (by with_reducible assumption)) hb; have HFc : Hid (_ ∧ _ ∧ _) := ⟨hm, hfm, hb⟩; clear hm hfm hb)
        | (go_at_call 32; refine (HC4.out _ (And.left (by with_reducible assumption))).mono ?_; rintro r xd ⟨fr, cf, rfl, hf1, hf2, hf3, hb⟩; have hSd : Hid (Below w.heap.size w xd) := up2 (And.left (by with_reducible assumption)) hb; have HFd : Hid (_ ∧ _ ∧ _ ∧ _) := ⟨hf1, hf2, hf3, hb⟩; clear hf1 hf2 hf3 hb)
        | (go_at_call 61; refine (HC5.out _ (And.left (by with_reducible assumption))).mono ?_; rintro r xe ⟨rfl, hb, hn⟩; have hSe : Hid (Below w.heap.size w xe) := up2 (And.left (by with_reducible assumption)) hb; have HFe : Hid (_ ∧ _) := ⟨hb, hn⟩; clear hb hn))
    all_goals (go_wp2_with fail)
    all_goals go_meet
    all_goals (
      obtain ⟨ct, hn1, hn2⟩ := HFe.out.2
      have t1 := Nx.lt HFa.out.2
      have t2 := Nx.lt HFb.out
      have t3 := Nx.lt HFc.out.2.2
      have t4 := Nx.lt HFd.out.2.2.2
      have t5 := Nx.lt HFe.out.1
      simp at t1 t2 t3 t4 t5
      refine ⟨_, rfl, _, _, _, _, _, _, _, _, m, fr, _, _, cf, ct, ?_, ?_, rfl⟩
      rotate_left
      · first | rfl | simp
      · refine ⟨_, _, mk_of ?_ ?_ HFa.out.1 HFa.out.2 ?_ HFb.out ?_ HFc.out.1 HFc.out.2.1 HFc.out.2.2 ?_ HFd.out.1 HFd.out.2.1 HFd.out.2.2.1 HFd.out.2.2.2 ?_ HFe.out.1 hn1 hn2 ?_ ?_ ?_ ?_ ?_ ?_ ?_⟩
        · first | rfl | simp
        · first | exact Nx.drew _ | exact (Nx.alloc _ _).trans (Nx.drew _)
        · first | exact Nx.refl _ | exact Nx.alloc _ _
        · first | exact Nx.refl _ | exact Nx.alloc _ _
        · first | exact Nx.refl _ | exact Nx.alloc _ _
        · first | exact Nx.refl _ | exact Nx.alloc _ _
        · first | exact Nx.refl _ | exact Nx.alloc _ _
        · first
            | exact numMap_new _
            | exact (numMap_new xd).same (Below.block (HFe.out.1) _ (by simp))
            | exact (numMap_new xc).same (Below.block (Nx.trans (HFd.out.2.2.2) HFe.out.1) _ (by simp))
            | exact (numMap_new xb).same (Below.block (Nx.trans (HFc.out.2.2) (Nx.trans HFd.out.2.2.2 HFe.out.1)) _ (by simp))
            | exact (numMap_new xa).same (Below.block (Nx.trans HFb.out (Nx.trans HFc.out.2.2 (Nx.trans HFd.out.2.2.2 HFe.out.1))) _ (by simp))
            | exact (numMap_new w).same (Below.block (Nx.trans HFa.out.2 (Nx.trans HFb.out (Nx.trans HFc.out.2.2 (Nx.trans HFd.out.2.2.2 HFe.out.1)))) _ (by simp))
        all_goals (try simp)
        all_goals omega)
  case rest =>
    obtain ⟨S, rfl, HN⟩ := hcut
    obtain ⟨X, v0, v1, v2, v3, v4, v5, v6, m, fr, tk, fh, cf, ct, ⟨lob, hib, hM⟩, hS, hW⟩ := HN.out
    have HM : Hid (Mk w X e b T (.agg #[v0, v1, v2, v3, v4, v5, v6]) lob hib m fr tk fh cf ct ∧ S = X.heap.size ∧ wc = X.alloc (.cells #[.string name, v0, v1, v2, v3, v4, v5, v6, .int .i64 ((1048576 : Int) - sz), .pointer none, .map (some m), .map (some fr), .map (some tk), .map (some fh), .int .i64 0] 110)) := ⟨hM, hS, hW⟩
    have hK : Blk wc S #[.string name, v0, v1, v2, v3, v4, v5, v6, .int .i64 ((1048576 : Int) - sz), .pointer none, .map (some m), .map (some fr), .map (some tk), .map (some fh), .int .i64 0] 110 := by rw [hS, hW]; exact Blk.new X _ _
    have k11 := hK.cell 11 _ rfl
    have k12 := hK.cell 12 _ rfl
    have hSl := hK.lt
    have HCp : Hid (Calls Tryz.prog 62 #[.map (some tk), .map (some fr)] wc.drew fun r W' => r = .returned (.tuple #[]) ∧ (∃ c', SetIs W' tk c' (fun x => decide (x ∈ T) || freeM (e + 1) b [] x)) ∧ But tk wc.drew W') := by
      have hXw : Below X.heap.size X wc.drew := by rw [hW]; exact (below1 X _).drew
      exact copySet_c tk fr ct cf _ _ wc.drew (hM.tak.same (hXw.block _ hM.tak.lt)) (hM.fre.same (hXw.block _ hM.fre.lt)) hM.rt.symm (by have := hM.ctb; have := HT.out.2.1; omega) (by have := hM.cfb; have := HT.out.2.2.2; omega)
    clear hM hS hW hK HN
    go_upto_region 2 with fail
    go_region_with (go_at_call 62; refine HCp.out.mono ?_; rintro r w9 ⟨rfl, hs9, hb9⟩; have H9 : Hid ((∃ c', SetIs w9 tk c' (fun x => decide (x ∈ T) || freeM (e + 1) b [] x)) ∧ But tk wc w9) := ⟨hs9, ⟨hb9.os, hb9.tape, hb9.output, hb9.size, hb9.block⟩⟩; clear hs9 hb9)
    all_goals (
      go_wp2
      go_ret
      obtain ⟨⟨c', h1⟩, h2⟩ := H9.out
      exact ⟨S, rfl, newSub_of HM.out.1 HM.out.2.1 HM.out.2.2 HT.out.1 HT.out.2.2.1 h1 h2⟩)
end Go.Proofs.YtegdloenakachaaGreatDoor
