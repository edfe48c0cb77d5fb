/-
  Layout: all that comes of tokens, by a contract.
-/
import Derived.Test.YtldpldcfgkceeaaGreatDoorQLay13
import Derived.Test.YtldpldcfgkceeaaGreatDoorQLayB
namespace Go.Proofs.YtldpldcfgkceeaaGreatDoor
open Go.RowKit Go.Shelf Go.Maps
set_option linter.unusedVariables false

def lxsC (xs : List L.Lx) : List Value := xs.flatMap lxC
theorem lxsC_snoc (xs : List L.Lx) (x : L.Lx) : lxsC (xs ++ [x]) = lxsC xs ++ lxC x := by simp [lxsC]
theorem Tryz.infoLx : (Tryz.prog.info? 45).map (fun i => (i.zero, i.size, i.bytes)) = some (some (.agg #[.int .i64 0, .string ⟨#[]⟩, .int .i64 0, .int .i64 0, .int .i64 0, .int .i64 0, .bool false, .bool false]), 8, 72) := by kernel_rfl
/-- A stream stays where another row grows. -/
theorem Strm.grown {W V : World} {P e : Nat} {s : L.S} {n : Nat} {ov : Option Addr} {cv : Nat} {bv : Value} {rb : Option Nat} (h : Strm W P e s n ov cv bv) (hg : W.grownBy V rb) (hr : ∀ k, rb = some k → k ≠ P ∧ (∀ a, ov = some a → a.block ≠ k) ∧ bv.ownBlock ≠ some k) : Strm V P e s n ov cv bv := by
  cases rb with
  | none => exact h.below ⟨hg.os, hg.tape, hg.output, hg.size, fun k hk => hg.block k hk (by simp)⟩
  | some k =>
    have := hr k rfl
    exact h.other (R := k) ⟨hg.os, hg.tape, hg.output, hg.size, fun i hi h1 _ => hg.block i hi (by simpa using h1)⟩ (fun e => this.1 e.symm) this.2.1 this.2.2
/-- What All answers. -/
def LPost (w W' : World) (r : Ending) (res : Sum Nat (List L.Lx)) : Prop :=
  match res with
  | .inl a => r = .returned (.tuple #[.slice none 0 0, .agg #[.int .i64 5, .int .i64 (a : Int)]])
  | .inr xs => ∃ v, r = .returned (.tuple #[v, .agg #[.int .i64 0, .int .i64 0]]) ∧ W'.ownsRow w.heap.size 45 8 v xs.length (lxsC xs)
def sLen : Value → Nat
  | .slice _ n _ => n
  | _ => 0
theorem own_len {W : World} {b e z n : Nat} {v : Value} {xs : List Value} (h : W.ownsRow b e z v n xs) : sLen v = n := by
  obtain ⟨o, c, rfl⟩ := owns_form h
  rfl
theorem cells_new1 (W : World) (o : Obj) (vs : List Value) (T : TypeId) : ∀ j u, vs[j]? = some u → ((W.alloc o).alloc (.cells vs.toArray T)).cell? ((⟨W.heap.size + 1, 0, none⟩ : Addr).add j) = some u := by
  have := cells_new (W.alloc o) vs T
  have hs : (W.alloc o).heap.size = W.heap.size + 1 := by simp
  rw [hs] at this
  exact this
/-- Where the loop stands. -/
def LInv (W1 W : World) (P B R e : Nat) (ts : List M.Tk) (o : Value) : Prop :=
  ∃ (s : L.S) (n : Nat) (ov : Option Addr) (cv : Nat) (bv : Value) (pre : List L.Lx), Strm W P e s n ov cv bv ∧ Sep P B ov bv ∧ B ≤ W.heap.size ∧ W.ownsRow B 45 8 o pre.length (lxsC pre) ∧ (o.ownBlock = none ∨ o.ownBlock ≠ bv.ownBlock) ∧ Below (R + 1) W1 W ∧ pre.length + L.mu s < 5 * ts.length + 4 ∧ L.all ts e = L.glue pre (L.run e (L.mu s + 1) s)
/-- One turn of the loop, but for its walk. -/
theorem linv_next {W1 W V U : World} {P B R e : Nat} {ts : List M.Tk} {o o' : Value} {s : L.S} {n : Nat} {ov : Option Addr} {cv : Nat} {bv : Value} {pre : List L.Lx} {n' : Nat} {ov' : Option Addr} {cv' : Nat} {bv' : Value} (hR : R + 1 ≤ P) (hPB : P < B)
    (hS : Strm W P e s n ov cv bv) (hB : B ≤ W.heap.size) (hO : W.ownsRow B 45 8 o pre.length (lxsC pre)) (hd : o.ownBlock = none ∨ o.ownBlock ≠ bv.ownBlock) (hBl : Below (R + 1) W1 W) (hmu : pre.length + L.mu s < 5 * ts.length + 4) (hall : L.all ts e = L.glue pre (L.run e (L.mu s + 1) s))
    (h0 : (L.coming e s).err = 0) (hS2 : Strm V P e (L.follow s (L.coming e s)) n' ov' cv' bv') (hSp2 : Sep P B ov' bv') (hC : Chg W V P bv.ownBlock) (hN : Nxt W bv.ownBlock bv'.ownBlock)
    (X : World) (hX : Below V.heap.size V X) (hg : X.grownBy U o.ownBlock) (hO' : U.ownsRow B 45 8 o' (pre.length + 1) (lxsC pre ++ lxC (L.coming e s).lx)) (hat : o'.ownBlock = o.ownBlock ∨ o'.ownBlock = some X.heap.size) : LInv W1 U P B R e ts o' := by
  have hgood := L.good_coming e s h0
  have hVs := hC.size
  have hXs := hX.size
  have hob : ∀ k, o.ownBlock = some k → B ≤ k ∧ k < W.heap.size := hO.lt
  have hbb : ∀ k, bv'.ownBlock = some k → P + 1 ≤ k ∧ k < V.heap.size := hS2.bks.lt
  have hne : ∀ k, o.ownBlock = some k → bv'.ownBlock ≠ some k := by
    intro k hk e
    rcases hN with h | ⟨j, h, hj⟩
    · rcases hd with hd | hd
      · rw [hd] at hk; cases hk
      · exact hd (by rw [hk, ← e, h])
    · rw [h, Option.some.injEq] at e
      have := (hob k hk).2
      omega
  refine ⟨L.follow s (L.coming e s), n', ov', cv', bv', pre ++ [(L.coming e s).lx], ?_, hSp2, ?_, ?_, ?_, ?_, ?_, ?_⟩
  · refine (hS2.below hX).grown hg (fun k hk => ⟨by have := (hob k hk).1; omega, fun a ha => by have := (hSp2 a ha).1; have := (hob k hk).1; omega, hne k hk⟩)
  · have := hg.size; omega
  · rw [List.length_append, lxsC_snoc]; exact hO'
  · rcases hat with h | h
    · cases hk : o.ownBlock with
      | none => exact .inl (by rw [h, hk])
      | some k => exact .inr (by rw [h, hk]; exact fun e => hne k hk e.symm)
    · refine .inr ?_
      rw [h]
      intro e
      have := (hbb _ e.symm).2
      omega
  · have h1 : Below (R + 1) W V := hC.below hR (by omega) (fun k hk => by have := (hS.bks.lt k hk).1; omega)
    exact ((hBl.trans h1).trans (hX.mono (by omega))).grown hg (by omega) (fun k hk => by have := (hob k hk).1; omega)
  · have := hgood.2.1
    rw [List.length_append]
    simp only [List.length_singleton]
    omega
  · rw [hall, L.run_on e _ s pre h0, L.run_fuel e (L.mu s) (L.mu (L.follow s (L.coming e s)) + 1) _ hgood.2.1 (by omega)]

set_option maxHeartbeats 4000000 in
set_option maxRecDepth 100000 in
theorem layAll_c (ts : List M.Tk) (e b : Nat) (v : Value) (hn : ts.length ≤ 5000) (w : World) (h : w.ownsRow b 43 7 v ts.length (tksC ts)) :
    Calls Tryz.prog 9 #[v, .int .i64 (e : Int)] w fun r W' => LPost w W' r (L.all ts e) ∧ Below w.heap.size w W' := by
  have hdep : Tryz.prog.follows Departure.mixedOrders = true := by kernel_rfl
  have hB0 : Hid (∀ o : Obj, Below w.heap.size w (w.alloc o)) := fun o => (Below.refl _ w).alloc (Nat.le_refl _) _
  have hN : Hid (∀ W : World, Below w.heap.size w W → Calls Tryz.prog 16 #[v, .int .i64 (e : Int)] W fun r W' => ∃ P o c, r = .returned (.pointer (some ⟨P, 0, none⟩)) ∧ Strm W' P e (L.new ts) ts.length o c (.slice none 0 0) ∧ W.heap.size ≤ P ∧ Sep P W'.heap.size o (.slice none 0 0) ∧ Below W.heap.size W W') := fun W hW => new_c ts e b v (by omega) W (owns_below h hW)
  have HN : Hid (ts.length ≤ 5000) := hn
  obtain ⟨i0, hi0, hz0, hz1, hz2⟩ := info_parts Tryz.infoLx
  clear h hn
  go_enter Tryz.func9, Tryz.ntmps9
  go_wp2_with (go_at_call 16; fail)
  refine (hN.out _ (hB0.out _)).mono ?_
  rintro r w1 ⟨P, o1, c1, rfl, hS, hP, hSp, hb1⟩
  have HR1 : Hid (Blk w1 w.heap.size #[.int .i64 0, .int .i64 0] 25) := (Blk.new w _ _).below hb1
  have HB1 : Hid (Below w.heap.size w w1) := (hB0.out _).trans (hb1.mono (by simp))
  have HP : Hid (w.heap.size + 1 ≤ P ∧ P < w1.heap.size) := ⟨by simpa using hP, hS.blk.lt⟩
  have HI : Hid (LInv w1 w1 P w1.heap.size w.heap.size e ts (.slice none 0 0)) := ⟨L.new ts, _, _, _, _, [], hS, hSp, Nat.le_refl _, World.ownsRow_nil _ _ _ _, .inl rfl, Below.refl _ _, by simpa using L.mu_new ts, by rw [L.glue_nil]; exact L.run_fuel e _ _ _ (L.mu_new ts) (Nat.lt_succ_self _)⟩
  clear hS hP hSp hb1 hN hB0
  go_wp2
  go_loopw [7] (fun o wr => ∃ u, u = o ∧ Hid (LInv w1 wr P w1.heap.size w.heap.size e ts u)) (fun o _ => 5 * ts.length + 4 - sLen o)
  case atStart => exact ⟨_, rfl, HI⟩
  case round =>
    clear HI
    obtain ⟨o, ho, hrel⟩ := hrel
    subst ho
    obtain ⟨s, n, ov, cv, bv, pre, hS, hSp, hB, hO, hd, hBl, hmu, hall⟩ := hrel.out
    have HA : Hid (L.all ts e = L.glue pre (L.run e (L.mu s + 1) s)) := hall
    have hm3 := L.mu_toks s
    have hnb : n ≤ 100000 := by have := hS.len; have := HN.out; omega
    have hbb : s.blocks.length ≤ 100000 := by have := HN.out; omega
    have hob : s.owed ≤ 100000 := by have := HN.out; omega
    have hlen : Hid (sLen o = pre.length) := own_len hO
    have hpl : Hid (pre.length + L.mu s < 5 * ts.length + 4 ∧ pre.length ≤ 100000) := ⟨hmu, by have := HN.out; omega⟩
    rcases L.coming_err e s with h0 | h0 | h0
    · have hT : Hid (Calls Tryz.prog 26 #[.pointer (some ⟨P, 0, none⟩)] wr fun r W' => r = .returned (.tuple #[lxV (L.coming e s).lx, .int .i64 0]) ∧ ∃ n' ov' cv' bv', Strm W' P e (L.follow s (L.coming e s)) n' ov' cv' bv' ∧ Sep P w1.heap.size ov' bv' ∧ Chg wr W' P bv.ownBlock ∧ Nxt wr bv.ownBlock bv'.ownBlock) := takeOn_c P w1.heap.size e s n ov cv bv hbb hnb hob wr hS hSp hB h0
      have HP' := HP.out
      have HX : Hid (∀ (V U X : World) (o' : Value) (n' : Nat) (ov' : Option Addr) (cv' : Nat) (bv' : Value), Strm V P e (L.follow s (L.coming e s)) n' ov' cv' bv' → Sep P w1.heap.size ov' bv' → Chg wr V P bv.ownBlock → Nxt wr bv.ownBlock bv'.ownBlock → Below V.heap.size V X → X.grownBy U o.ownBlock → U.ownsRow w1.heap.size 45 8 o' (pre.length + 1) (lxsC pre ++ lxC (L.coming e s).lx) → (o'.ownBlock = o.ownBlock ∨ o'.ownBlock = some X.heap.size) → LInv w1 U P w1.heap.size w.heap.size e ts o') := fun V U X o' n' ov' cv' bv' k1 k2 k3 k4 k5 k6 k7 k8 => linv_next HP'.1 HP'.2 hS hB hO hd hBl hmu hall h0 k1 k2 k3 k4 X k5 k6 k7 k8
      have HO2 : Hid (∀ V : World, Chg wr V P bv.ownBlock → V.ownsRow w1.heap.size 45 8 o pre.length (lxsC pre)) := fun V hc => owns_chg hO hc (fun e => by have := (hO.lt _ e).1; omega) hd
      have HSz : Hid (w1.heap.size ≤ wr.heap.size) := hB
      clear hS hSp hB hO hd hBl hmu hall hm3 hnb hbb hob hrel HA HP'
      obtain ⟨lx, hlx⟩ : ∃ lx, (L.coming e s).lx = lx := ⟨_, rfl⟩
      rw [hlx] at hT HX
      obtain ⟨s', hs'⟩ : ∃ s', L.follow s (L.coming e s) = s' := ⟨_, rfl⟩
      rw [hs'] at hT HX
      clear hlx hs' h0
      obtain ⟨⟨⟨k, tx, num⟩, pos, line, tc, first⟩, imp⟩ := lx
      have hLV : lxV ⟨⟨⟨k, tx, num⟩, pos, line, tc, first⟩, imp⟩ = .agg #[.int .i64 (k : Int), .string (bs tx), .int .i64 (num : Int), .int .i64 (pos : Int), .int .i64 (line : Int), .int .i64 (tc : Int), .bool first, .bool imp] := rfl
      have hLC : lxC ⟨⟨⟨k, tx, num⟩, pos, line, tc, first⟩, imp⟩ = [.int .i64 (k : Int), .string (bs tx), .int .i64 (num : Int), .int .i64 (pos : Int), .int .i64 (line : Int), .int .i64 (tc : Int), .bool first, .bool imp] := rfl
      rw [hLV] at hT
      rw [hLC] at HX
      clear hLV hLC
      go_wp2_with (go_at_call 26; fail)
      refine hT.out.mono ?_
      rintro r w2 ⟨rfl, n', ov', cv', bv', hS2, hSp2, hC2, hN2⟩
      have hO2 : Hid (w2.ownsRow w1.heap.size 45 8 o pre.length (lxsC pre)) := HO2.out w2 hC2
      have HY : Hid (∀ (U X : World) (o' : Value), Below w2.heap.size w2 X → X.grownBy U o.ownBlock → U.ownsRow w1.heap.size 45 8 o' (pre.length + 1) (lxsC pre ++ [.int .i64 (k : Int), .string (bs tx), .int .i64 (num : Int), .int .i64 (pos : Int), .int .i64 (line : Int), .int .i64 (tc : Int), .bool first, .bool imp]) → (o'.ownBlock = o.ownBlock ∨ o'.ownBlock = some X.heap.size) → LInv w1 U P w1.heap.size w.heap.size e ts o') := fun U X o' k5 k6 k7 k8 => HX.out w2 U X o' n' ov' cv' bv' hS2 hSp2 hC2 hN2 k5 k6 k7 k8
      have HS2 : Hid (w1.heap.size ≤ w2.heap.size) := Nat.le_trans HSz.out hC2.size
      clear hS2 hSp2 hC2 hN2 hT HX HO2 HSz
      go_wp2_with (at_builtin; refine wpList_append_own_at _ rfl _ _ 28 rfl w1.heap.size 45 i0 _ 8 72 Tryz.underlying28 hi0 hz0 hz1 hz2 rfl (by decide) _ _ _ rfl ((hO2.out.alloc _).alloc _) ⟨w2.heap.size + 1, 0, none⟩ 1 1 [.int .i64 (k : Int), .string (bs tx), .int .i64 (num : Int), .int .i64 (pos : Int), .int .i64 (line : Int), .int .i64 (tc : Int), .bool first, .bool imp] rfl rfl (cells_new1 _ _ _ _) (by simp [Value.oneCell']) (by have := hpl.out; unfold maxLen; omega) (by have := hpl.out; omega) (by have := HS2.out; simp; omega) ?_; intro o' w4 hown4 hgrow4 hnil4 hat4; obtain ⟨oo, oc, hv'⟩ := owns_form hown4; subst hv'; have HI4 : Hid (LInv w1 w4 P w1.heap.size w.heap.size e ts (.slice oo (pre.length + 1) oc)) := HY.out w4 _ _ (((Below.refl _ w2).alloc (Nat.le_refl _) _).alloc (by simp) _) hgrow4 hown4 hat4; clear hown4 hgrow4 hnil4 hat4 hO2 HY)
      go_roundw
      case rel => exact ⟨_, rfl, HI4⟩
      case measure => have h1 := hlen.out; have h2 := hpl.out; rw [h1]; show 5 * ts.length + 4 - (pre.length + 1) < _; omega
    · have hT : Hid (Calls Tryz.prog 26 #[.pointer (some ⟨P, 0, none⟩)] wr fun r W' => r = .returned (.tuple #[.agg #[.int .i64 0, .string ⟨#[]⟩, .int .i64 0, .int .i64 0, .int .i64 0, .int .i64 0, .bool false, .bool false], .int .i64 5]) ∧ Below wr.heap.size wr W') := takeOff_c P e s n ov cv bv hbb hnb hob wr hS 5 h0 (by omega)
      have hWr : Hid (∀ W : World, Below wr.heap.size wr W → Calls Tryz.prog 20 #[.pointer (some ⟨P, 0, none⟩)] W fun r W' => r = .returned (.int .i64 (L.place e s.toks : Nat)) ∧ Below W.heap.size W W') := fun W hW => wrong_c P e s n ov cv bv hbb hnb hob W (hS.below hW) h0
      have HE : Hid (L.all ts e = .inl (L.place e s.toks)) := by show _ = _; rw [hall, L.run_bad e _ s h0]; rfl
      have HBl : Hid (Below (w.heap.size + 1) w1 wr) := hBl
      clear hS hSp hB hO hd hBl hmu hall hm3 hnb hbb hob hrel HA
      generalize L.place e s.toks = pl at *
      go_wp2_with (go_at_call 26; fail)
      refine hT.out.mono ?_
      rintro r w2 ⟨rfl, hb2⟩
      have hR2 : Hid (Blk w2 w.heap.size #[.int .i64 0, .int .i64 0] 25) := (blk_belowB HR1.out (Nat.lt_succ_self _) HBl.out).below hb2
      have HB2 : Hid (Below wr.heap.size wr w2) := hb2
      clear hb2
      go_wp2_with (go_at_call 20; fail)
      refine (hWr.out _ (HB2.out.alloc HB2.out.size _)).mono ?_
      rintro r w3 ⟨rfl, hb3⟩
      have hR3 : Hid (Blk w3 w.heap.size #[.int .i64 0, .int .i64 0] 25) := (hR2.out.alloc _).below hb3
      have HB3 : Hid (Below wr.heap.size wr w3) := (HB2.out.alloc HB2.out.size _).trans (hb3.mono (by have := HB2.out.size; simp; omega))
      obtain ⟨c0, c1, f0, f1⟩ := hR3.out.all2
      clear hb3 hT hWr hi0 hz0 hz1 hz2
      go_wp2
      have z := ((hR3.out.set1 0 (.int .i64 5) #[.int .i64 5, .int .i64 0] rfl).set1 1 (.int .i64 (pl : Int)) #[.int .i64 5, .int .i64 (pl : Int)] rfl).all2
      have h1 := HB1.out.size
      have h2 := HBl.out.size
      have hb3 : Below w.heap.size w w3 := (HB1.out.trans (HBl.out.mono (Nat.le_succ _))).trans (HB3.out.mono (by omega))
      exact bodyPost_ret (v := .tuple #[.slice none 0 0, .agg #[.int .i64 5, .int .i64 (pl : Int)]]) (by simp [results, Tryz.results9, go_sem, z]) rfl ⟨by rw [HE.out]; exact rfl, below_setB (below_setB hb3 (Nat.le_refl _) 0 _) (Nat.le_refl _) 1 _⟩
    · have hT : Hid (Calls Tryz.prog 26 #[.pointer (some ⟨P, 0, none⟩)] wr fun r W' => r = .returned (.tuple #[.agg #[.int .i64 0, .string ⟨#[]⟩, .int .i64 0, .int .i64 0, .int .i64 0, .int .i64 0, .bool false, .bool false], .int .i64 11]) ∧ Below wr.heap.size wr W') := takeOff_c P e s n ov cv bv hbb hnb hob wr hS 11 h0 (by omega)
      have HE : Hid (L.all ts e = .inr pre) := by show _ = _; rw [hall, L.run_over e _ s h0]; simp [L.glue]
      have HO : Hid (wr.ownsRow w1.heap.size 45 8 o pre.length (lxsC pre)) := hO
      have HBl : Hid (Below (w.heap.size + 1) w1 wr) := hBl
      clear hS hSp hB hO hd hBl hmu hall hm3 hnb hbb hob hrel HA
      go_wp2_with (go_at_call 26; fail)
      refine hT.out.mono ?_
      rintro r w2 ⟨rfl, hb2⟩
      have hR2 : Hid (Blk w2 w.heap.size #[.int .i64 0, .int .i64 0] 25) := (blk_belowB HR1.out (Nat.lt_succ_self _) HBl.out).below hb2
      have HB2 : Hid (Below wr.heap.size wr w2) := hb2
      clear hb2
      obtain ⟨c0, c1, f0, f1⟩ := hR2.out.all2
      have hRl : w.heap.size < w2.heap.size := hR2.out.lt
      clear hT hi0 hz0 hz1 hz2
      go_wp2
      have z := (((hR2.out.set1 0 (.int .i64 0) #[.int .i64 0, .int .i64 0] rfl).set1 1 (.int .i64 0) #[.int .i64 0, .int .i64 0] rfl).alloc (.cells #[.int .i64 0, .string ⟨#[]⟩, .int .i64 0, .int .i64 0, .int .i64 0, .int .i64 0, .bool false, .bool false] 45)).all2
      have h1 := HB1.out.size
      have h2 := HBl.out.size
      have h3 := HB2.out.size
      have h4 := HP.out
      have hb2 : Below w.heap.size w w2 := (HB1.out.trans (HBl.out.mono (Nat.le_succ _))).trans (HB2.out.mono (by omega))
      have ho2 := (ownsRow_setCell_below (a := ⟨w.heap.size, 1, none⟩) (ownsRow_setCell_below (a := ⟨w.heap.size, 0, none⟩) (owns_below HO.out HB2.out) (by show w.heap.size < w1.heap.size; omega) (.int .i64 0)) (by show w.heap.size < w1.heap.size; omega) (.int .i64 0)).alloc (.cells #[.int .i64 0, .string ⟨#[]⟩, .int .i64 0, .int .i64 0, .int .i64 0, .int .i64 0, .bool false, .bool false] 45)
      exact bodyPost_ret (v := .tuple #[o, .agg #[.int .i64 0, .int .i64 0]]) (by simp [results, Tryz.results9, go_sem, z]) rfl ⟨by rw [HE.out]; exact ⟨o, rfl, owns_mono ho2 h1⟩, (below_setB (below_setB hb2 (Nat.le_refl _) 0 _) (Nat.le_refl _) 1 _).alloc (by simp [World.setCell]; omega) _⟩

end Go.Proofs.YtldpldcfgkceeaaGreatDoor
