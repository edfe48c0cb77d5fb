/-
  One walk for all binders, as mathematics (stage 16): the state, its steps, and what an expression does to it.
-/
import Derived.Test.YtjmpjfggbhongaaDoorOcA
namespace Go.Proofs.YtjmpjfggbhongaaDoor
open Go.RowKit Go.Shelf Go.Maps
set_option linter.unusedVariables false

/-- A binder, and what was met of it. -/
structure BdR where
  name : ByteArray
  occ : Nat
  places : Nat
  last : Nat
  lam : Nat
  level : Nat
  hid : Option Nat
/-- A walk's state: its parts from the innermost one on, its binders by their numbers. -/
structure WS where
  parts : List (Nat × Option Nat)
  lam : Nat
  met : Nat
  puts : Nat
  bs : List BdR
  named : List UInt8 → Option Nat
  scope : List Nat
  asked : List Nat
def bdD : BdR := ⟨⟨#[]⟩, 0, 0, 0, 0, 0, none⟩
def WS.bd (s : WS) (i : Nat) : BdR := (s.bs[i]?).getD bdD
def freshS (nm : ByteArray) (h : Option Nat) (s : WS) : WS :=
  { s with bs := s.bs ++ [⟨nm, 1, 0, 0, s.lam, s.scope.length, h⟩], named := fun x => if x = nm.data.toList then some s.bs.length else s.named x, scope := s.scope ++ [s.bs.length], asked := s.asked ++ [s.bs.length], puts := s.puts + 1 }
def bindS (outer : Nat) (nm : ByteArray) (s : WS) : WS :=
  match s.named nm.data.toList with
  | none => freshS nm none s
  | some b => if (s.bd b).level < outer then freshS nm (some b) s else { s with asked := s.asked ++ [b] }
def bindsS (outer : Nat) (l : List ByteArray) (s : WS) : WS := l.foldl (fun s n => bindS outer n s) s
/-- Where the alternatives begin of the innermost part that has a place. -/
def altsIn : List (Nat × Option Nat) → Nat → Option Nat
  | [], _ => none
  | q :: r, p => if q.1 ≤ p then q.2 else altsIn r p
def prt (l : List (Nat × Option Nat)) (p : Nat) : Bool := match altsIn l p with | some a => decide (a ≤ p) | none => false
def comb (q : Bool) (a b : Nat) : Nat := if q then eitherM a b else bothM a b
def wth (l : Bool) (r : Nat) : Nat := if l then withinM r else r
def metB (s : WS) (b : BdR) : BdR := { b with occ := comb (prt s.parts b.last) b.occ (if b.lam < s.lam then 4 else 2), places := b.places + 1, last := s.met }
def meetS (nm : ByteArray) (s : WS) : WS :=
  match s.named nm.data.toList with
  | none => { s with met := s.met + 1 }
  | some i => { s with bs := s.bs.set i (metB s (s.bd i)), met := s.met + 1 }
def unb1 (s : WS) (i : Nat) : WS := { s with named := fun x => if x = (s.bd i).name.data.toList then (s.bd i).hid else s.named x, puts := s.puts + 1 }
def unbindS (outer : Nat) (s : WS) : WS := let s' := (s.scope.drop outer).foldl unb1 s; { s' with scope := s'.scope.take outer }
def pushS (k : Int) (s : WS) : WS := { s with parts := (s.met, none) :: s.parts, lam := if k = 5 then s.lam + 1 else s.lam }
def popS (k : Int) (s : WS) : WS := { s with parts := s.parts.tail, lam := if k = 5 then s.lam - 1 else s.lam }
def setAlts (s : WS) : WS := match s.parts with | [] => s | q :: r => { s with parts := (q.1, some s.met) :: r }
def inSc (ns : List ByteArray) (f : WS → WS) (s : WS) : WS := unbindS s.scope.length (f (bindsS s.scope.length ns s))
def varS {d : Nat} (t : Tr (d + 1)) (s : WS) : WS := if TrN.kind t = 1 then meetS (TrN.name t) s else s
def bodyS {d : Nat} (f : Tr d → WS → WS) (t : Tr (d + 1)) (s : WS) : WS :=
  (TrN.alts t).foldl (fun s a => inSc a.1.vars (f a.2) s) (setAlts ((TrN.args t).foldl (fun s e => f e s) ((TrN.binds t).foldl (fun s b => f b.2 s) (varS t s))))
def exprS : (d : Nat) → Tr d → WS → WS
  | 0, t, _ => nomatch t
  | d + 1, t, s => popS (TrN.kind t) (inSc (bndM t) (bodyS (exprS d) t) (pushS (TrN.kind t) s))

theorem WS.bd_lt {s : WS} {i : Nat} (h : i < s.bs.length) : s.bd i = s.bs[i] := by simp [WS.bd, h]
/-- What is as it must be. -/
structure Wf (s : WS) : Prop where
  srt : s.parts.Pairwise (fun a b => b.1 ≤ a.1)
  mt : ∀ q ∈ s.parts, q.1 ≤ s.met
  zero : ∀ q, s.parts.getLast? = some q → q.1 = 0
  sc : ∀ i ∈ s.scope, i < s.bs.length
  nm : ∀ x i, s.named x = some i → i < s.bs.length ∧ (s.bd i).name.data.toList = x ∧ (s.bd i).level < s.scope.length ∧ (s.bd i).lam ≤ s.lam ∧ 1 ≤ (s.bd i).occ ∧ (s.bd i).occ ≤ 5 ∧ ((s.bd i).occ = 1 ∧ (s.bd i).last = 0 ∨ (s.bd i).last < s.met) ∧ (s.bd i).places ≤ s.met
/-- What a step keeps. -/
structure Kept (s s' : WS) : Prop where
  lam : s'.lam = s.lam
  named : s'.named = s.named
  scope : s'.scope = s.scope
  met : s.met ≤ s'.met
  len : s.bs.length ≤ s'.bs.length
  fix : ∀ i, i < s.bs.length → (s'.bd i).name = (s.bd i).name ∧ (s'.bd i).lam = (s.bd i).lam ∧ (s'.bd i).level = (s.bd i).level ∧ (s'.bd i).hid = (s.bd i).hid
  idle : ∀ i, i < s.bs.length → (∀ x, s.named x ≠ some i) → s'.bd i = s.bd i
theorem Kept.refl (s : WS) : Kept s s := ⟨rfl, rfl, rfl, Nat.le_refl _, Nat.le_refl _, fun _ _ => ⟨rfl, rfl, rfl, rfl⟩, fun _ _ _ => rfl⟩
theorem Kept.trans {s s' s'' : WS} (h : Kept s s') (k : Kept s' s'') : Kept s s'' := by
  refine ⟨k.lam.trans h.lam, k.named.trans h.named, k.scope.trans h.scope, Nat.le_trans h.met k.met, Nat.le_trans h.len k.len, fun i hi => ?_, fun i hi hx => ?_⟩
  · obtain ⟨a1, a2, a3, a4⟩ := h.fix i hi
    obtain ⟨b1, b2, b3, b4⟩ := k.fix i (Nat.lt_of_lt_of_le hi h.len)
    exact ⟨b1.trans a1, b2.trans a2, b3.trans a3, b4.trans a4⟩
  · exact (k.idle i (Nat.lt_of_lt_of_le hi h.len) (by rw [h.named]; exact hx)).trans (h.idle i hi hx)
/-- What becomes of a binder that is in scope. -/
def Upd (s s' : WS) (i r c : Nat) : Prop :=
  (c = 0 → s'.bd i = s.bd i) ∧ (1 ≤ c → (s'.bd i).occ = comb (prt s.parts (s.bd i).last) (s.bd i).occ (wth (decide ((s.bd i).lam < s.lam)) r) ∧ (s'.bd i).places = (s.bd i).places + c ∧ s.met ≤ (s'.bd i).last ∧ (s'.bd i).last < s'.met ∧ s.met + c ≤ s'.met)
def GG (r c : Nat) : Prop := 1 ≤ r ∧ r ≤ 5 ∧ (c = 0 ↔ r = 1)
def viewS (s : WS) (i : Nat) : ByteArray × Nat := ((s.bd i).name, (s.bd i).occ)
def AskP (s s' : WS) (L : List (ByteArray × Nat)) : Prop := ∃ l, s'.asked = s.asked ++ l ∧ l.map (viewS s') = L ∧ ∀ i ∈ l, s.bs.length ≤ i ∧ i < s'.bs.length
theorem five {r : Nat} (h1 : 1 ≤ r) (h2 : r ≤ 5) : r = 1 ∨ r = 2 ∨ r = 3 ∨ r = 4 ∨ r = 5 := by omega
theorem comb_ok {q : Bool} {a b : Nat} (ha : 1 ≤ a ∧ a ≤ 5) (hb : 1 ≤ b ∧ b ≤ 5) : 1 ≤ comb q a b ∧ comb q a b ≤ 5 := by
  rcases five ha.1 ha.2 with rfl | rfl | rfl | rfl | rfl <;> rcases five hb.1 hb.2 with rfl | rfl | rfl | rfl | rfl <;> cases q <;> decide
theorem wth_ok {l : Bool} {r : Nat} (h : 1 ≤ r ∧ r ≤ 5) : 1 ≤ wth l r ∧ wth l r ≤ 5 := by
  rcases five h.1 h.2 with rfl | rfl | rfl | rfl | rfl <;> cases l <;> decide
theorem wth_ne {l : Bool} {r : Nat} (h : 1 ≤ r ∧ r ≤ 5) (hr : r ≠ 1) : wth l r ≠ 1 := by
  rcases five h.1 h.2 with rfl | rfl | rfl | rfl | rfl <;> first | exact absurd rfl hr | (cases l <;> decide)
theorem comb_ne {q : Bool} {a b : Nat} (ha : 1 ≤ a ∧ a ≤ 5) (hb : 1 ≤ b ∧ b ≤ 5) (hr : b ≠ 1) : comb q a b ≠ 1 := by
  rcases five ha.1 ha.2 with rfl | rfl | rfl | rfl | rfl <;> rcases five hb.1 hb.2 with rfl | rfl | rfl | rfl | rfl <;> first | exact absurd rfl hr | (cases q <;> decide)
theorem comb_one {q : Bool} {b : Nat} (hb : 1 ≤ b ∧ b ≤ 5) : comb q 1 b = b := by
  rcases five hb.1 hb.2 with rfl | rfl | rfl | rfl | rfl <;> cases q <;> rfl
/-- One behind the other, together. -/
theorem both_seq {q l : Bool} {o r1 r2 : Nat} (ho : 1 ≤ o ∧ o ≤ 5) (h1 : 1 ≤ r1 ∧ r1 ≤ 5) (h2 : 1 ≤ r2 ∧ r2 ≤ 5) (n1 : r1 ≠ 1) (n2 : r2 ≠ 1) : comb false (comb q o (wth l r1)) (wth l r2) = comb q o (wth l (bothM r1 r2)) := by
  rcases five ho.1 ho.2 with rfl | rfl | rfl | rfl | rfl <;> rcases five h1.1 h1.2 with rfl | rfl | rfl | rfl | rfl <;> (try exact absurd rfl n1) <;> rcases five h2.1 h2.2 with rfl | rfl | rfl | rfl | rfl <;> (try exact absurd rfl n2) <;> cases q <;> cases l <;> rfl
/-- One behind the other, in two alternatives. -/
theorem either_seq {q l : Bool} {o r1 r2 : Nat} (ho : 1 ≤ o ∧ o ≤ 5) (h1 : 1 ≤ r1 ∧ r1 ≤ 5) (h2 : 1 ≤ r2 ∧ r2 ≤ 5) (n1 : r1 ≠ 1) (n2 : r2 ≠ 1) : comb true (comb q o (wth l r1)) (wth l r2) = comb q o (wth l (eitherM r1 r2)) := by
  rcases five ho.1 ho.2 with rfl | rfl | rfl | rfl | rfl <;> rcases five h1.1 h1.2 with rfl | rfl | rfl | rfl | rfl <;> (try exact absurd rfl n1) <;> rcases five h2.1 h2.2 with rfl | rfl | rfl | rfl | rfl <;> (try exact absurd rfl n2) <;> cases q <;> cases l <;> rfl
theorem gg_both {r1 c1 r2 c2 : Nat} (h : GG r1 c1) (k : GG r2 c2) : GG (bothM r1 r2) (c1 + c2) := by
  obtain ⟨a1, a2, a3⟩ := h; obtain ⟨b1, b2, b3⟩ := k
  have e : c1 + c2 = 0 ↔ r1 = 1 ∧ r2 = 1 := by rw [← a3, ← b3]; omega
  refine ⟨?_, ?_, e.trans ?_⟩ <;> rcases five a1 a2 with rfl | rfl | rfl | rfl | rfl <;> rcases five b1 b2 with rfl | rfl | rfl | rfl | rfl <;> decide
theorem gg_either {r1 c1 r2 c2 : Nat} (h : GG r1 c1) (k : GG r2 c2) : GG (eitherM r1 r2) (c1 + c2) := by
  obtain ⟨a1, a2, a3⟩ := h; obtain ⟨b1, b2, b3⟩ := k
  have e : c1 + c2 = 0 ↔ r1 = 1 ∧ r2 = 1 := by rw [← a3, ← b3]; omega
  refine ⟨?_, ?_, e.trans ?_⟩ <;> rcases five a1 a2 with rfl | rfl | rfl | rfl | rfl <;> rcases five b1 b2 with rfl | rfl | rfl | rfl | rfl <;> decide
theorem gg_within {r c : Nat} (h : GG r c) : GG (withinM r) c := by
  obtain ⟨a1, a2, a3⟩ := h
  refine ⟨?_, ?_, a3.trans ?_⟩ <;> rcases five a1 a2 with rfl | rfl | rfl | rfl | rfl <;> decide
theorem GG.ne {r c : Nat} (h : GG r c) (hc : 1 ≤ c) : r ≠ 1 := fun e => by have := h.2.2.2 e; omega
theorem GG.one {r c : Nat} (h : GG r c) (hc : c = 0) : r = 1 := h.2.2.1 hc
theorem GG.rg {r c : Nat} (h : GG r c) : 1 ≤ r ∧ r ≤ 5 := ⟨h.1, h.2.1⟩

/-- What is as it must be stays so. -/
theorem Wf.step {s s' : WS} (h : Wf s) (hp1 : s'.parts.map Prod.fst = s.parts.map Prod.fst) (hk : Kept s s') {r c : List UInt8 → Nat} (hg : ∀ x, GG (r x) (c x)) (hu : ∀ x i, s.named x = some i → Upd s s' i (r x) (c x)) : Wf s' := by
  have hl : s'.parts.length = s.parts.length := by have := congrArg List.length hp1; simpa using this
  have hmem : ∀ q ∈ s'.parts, ∃ p ∈ s.parts, p.1 = q.1 := fun q hq => by
    have : q.1 ∈ s'.parts.map Prod.fst := List.mem_map_of_mem hq
    rw [hp1] at this
    obtain ⟨p, hp, e⟩ := List.mem_map.1 this
    exact ⟨p, hp, e⟩
  refine ⟨?_, ?_, ?_, ?_, ?_⟩
  · have h1 : (s.parts.map Prod.fst).Pairwise (fun a b => b ≤ a) := List.pairwise_map.2 h.srt
    rw [← hp1] at h1
    exact List.pairwise_map.1 h1
  · intro q hq
    obtain ⟨p, hp, e⟩ := hmem q hq
    have := h.mt p hp
    have := hk.met
    omega
  · intro q hq
    have e1 : (s'.parts.map Prod.fst).getLast? = some q.1 := by rw [List.getLast?_map, hq]; rfl
    rw [hp1, List.getLast?_map] at e1
    obtain ⟨p, hp, e⟩ := Option.map_eq_some_iff.1 e1
    rw [← e]; exact h.zero p hp
  · intro i hi
    rw [hk.scope] at hi
    exact Nat.lt_of_lt_of_le (h.sc i hi) hk.len
  · intro x i hx
    rw [hk.named] at hx
    obtain ⟨n1, n2, n3, n4, n5, n6, n7, n8⟩ := h.nm x i hx
    obtain ⟨f1, f2, f3, f4⟩ := hk.fix i n1
    obtain ⟨u1, u2⟩ := hu x i hx
    have hm := hk.met
    refine ⟨Nat.lt_of_lt_of_le n1 hk.len, by rw [f1]; exact n2, by rw [f3, hk.scope]; exact n3, by rw [f2, hk.lam]; exact n4, ?_⟩
    rcases Nat.eq_zero_or_pos (c x) with hc | hc
    · rw [u1 hc]; exact ⟨n5, n6, n7.imp id (fun h => by omega), by omega⟩
    · obtain ⟨v1, v2, v3, v4, v5⟩ := u2 hc
      have := comb_ok (q := prt s.parts (s.bd i).last) ⟨n5, n6⟩ (wth_ok (l := decide ((s.bd i).lam < s.lam)) (hg x).rg)
      rw [v1]
      exact ⟨this.1, this.2, .inr v4, by omega⟩
/-- A step that goes through something: the occurrence and the count of each name in it, and what its binders come to. -/
def Chd (p : List (Nat × Option Nat) → Nat → Prop) (f : WS → WS) (r c : List UInt8 → Nat) (L : List (ByteArray × Nat)) : Prop :=
  (∀ x, GG (r x) (c x)) ∧ ∀ s, Wf s → p s.parts s.met → (f s).parts = s.parts ∧ Kept s (f s) ∧ (∀ x i, s.named x = some i → Upd s (f s) i (r x) (c x)) ∧ AskP s (f s) L
theorem AskP.trans {s s' s'' : WS} {L L' : List (ByteArray × Nat)} (hw : Wf s) (k1 : Kept s s') (k2 : Kept s' s'') (h : AskP s s' L) (k : AskP s' s'' L') : AskP s s'' (L ++ L') := by
  obtain ⟨l, e1, e2, e3⟩ := h
  obtain ⟨l', e4, e5, e6⟩ := k
  refine ⟨l ++ l', by rw [e4, e1, List.append_assoc], ?_, fun i hi => ?_⟩
  · rw [List.map_append, e5, ← e2]
    congr 1
    refine List.map_congr_left (fun i hi => ?_)
    obtain ⟨h1, h2⟩ := e3 i hi
    have : s''.bd i = s'.bd i := k2.idle i h2 (fun x hx => by rw [k1.named] at hx; have := (hw.nm x i hx).1; omega)
    simp [viewS, this]
  · rcases List.mem_append.1 hi with h9 | h9
    · have := e3 i h9; have := k2.len; omega
    · have := e6 i h9; have := k1.len; omega
theorem altsIn_hit {m : Nat} {a : Option Nat} {P : List (Nat × Option Nat)} {p : Nat} (h : m ≤ p) : altsIn ((m, a) :: P) p = a := if_pos h
theorem altsIn_miss {m : Nat} {a : Option Nat} {P : List (Nat × Option Nat)} {p : Nat} (h : p < m) : altsIn ((m, a) :: P) p = altsIn P p := if_neg (show ¬ m ≤ p by omega)
theorem prt_none {m : Nat} {P : List (Nat × Option Nat)} {p : Nat} (h : m ≤ p) : prt ((m, none) :: P) p = false := by simp [prt, altsIn_hit h]
theorem prt_some {m a : Nat} {P : List (Nat × Option Nat)} {p : Nat} (h : m ≤ p) : prt ((m, some a) :: P) p = decide (a ≤ p) := by simp [prt, altsIn_hit h]
theorem prt_miss {m : Nat} {a : Option Nat} {P : List (Nat × Option Nat)} {p : Nat} (h : p < m) : prt ((m, a) :: P) p = prt P p := by simp [prt, altsIn_miss h]
/-- Ahead of the alternatives. -/
def pre1 (l : List (Nat × Option Nat)) (m : Nat) : Prop := ∃ m0 P, l = (m0, none) :: P
/-- Among the alternatives. -/
def pre2 (l : List (Nat × Option Nat)) (m : Nat) : Prop := ∃ m0 mA P, l = (m0, some mA) :: P ∧ m0 ≤ mA ∧ mA ≤ m
/-- Anywhere. -/
def pre0 (l : List (Nat × Option Nat)) (m : Nat) : Prop := l = [] → m = 0
theorem Chd.to1 {f : WS → WS} {r c : List UInt8 → Nat} {L : List (ByteArray × Nat)} (h : Chd pre0 f r c L) : Chd pre1 f r c L :=
  ⟨h.1, fun s hs ⟨m0, P, e⟩ => h.2 s hs (fun e' => by rw [e] at e'; cases e')⟩
theorem Chd.to2 {f : WS → WS} {r c : List UInt8 → Nat} {L : List (ByteArray × Nat)} (h : Chd pre0 f r c L) : Chd pre2 f r c L :=
  ⟨h.1, fun s hs ⟨m0, mA, P, e, _⟩ => h.2 s hs (fun e' => by rw [e] at e'; cases e')⟩
theorem Chd.seq1 {f g : WS → WS} {r1 c1 r2 c2 : List UInt8 → Nat} {L1 L2 : List (ByteArray × Nat)} (h : Chd pre1 f r1 c1 L1) (k : Chd pre1 g r2 c2 L2) : Chd pre1 (fun s => g (f s)) (fun x => bothM (r1 x) (r2 x)) (fun x => c1 x + c2 x) (L1 ++ L2) := by
  refine ⟨fun x => gg_both (h.1 x) (k.1 x), fun s hs hp => ?_⟩
  obtain ⟨p1, k1, u1, a1⟩ := h.2 s hs hp
  obtain ⟨m0, P, e0⟩ := hp
  have hs' : Wf (f s) := hs.step (by rw [p1]) k1 h.1 u1
  obtain ⟨p2, k2, u2, a2⟩ := k.2 (f s) hs' ⟨m0, P, p1.trans e0⟩
  refine ⟨p2.trans p1, k1.trans k2, fun x i hx => ?_, AskP.trans hs k1 k2 a1 a2⟩
  have hx' : (f s).named x = some i := by rw [k1.named]; exact hx
  obtain ⟨n1, n2, n3, n4, n5, n6, n7, n8⟩ := hs.nm x i hx
  obtain ⟨f1, f2, f3, f4⟩ := k1.fix i n1
  obtain ⟨v1, v2⟩ := u1 x i hx
  obtain ⟨w1, w2⟩ := u2 x i hx'
  have hm2 := k2.met
  have hm1 := k1.met
  show Upd s (g (f s)) i (bothM (r1 x) (r2 x)) (c1 x + c2 x)
  refine ⟨fun hc => (w1 (by omega)).trans (v1 (by omega)), fun hc => ?_⟩
  rcases Nat.eq_zero_or_pos (c1 x) with h1 | h1
  · have hr1 := (h.1 x).one h1
    have e1 := v1 h1
    obtain ⟨y1, y2, y3, y4, y5⟩ := w2 (by omega)
    rw [e1, p1, k1.lam] at y1
    rw [e1] at y2
    exact ⟨by rw [y1, hr1]; rfl, by omega, by omega, y4, by omega⟩
  · obtain ⟨z1, z2, z3, z4, z5⟩ := v2 h1
    rcases Nat.eq_zero_or_pos (c2 x) with h2 | h2
    · have hr2 := (k.1 x).one h2
      rw [w1 h2]
      refine ⟨?_, by omega, z3, by omega, by omega⟩
      rw [z1, hr2]
      congr 2
      have := (h.1 x).ne h1
      simp only [bothM, if_neg this, if_true]
    · obtain ⟨y1, y2, y3, y4, y5⟩ := w2 h2
      have hm0 : m0 ≤ s.met := hs.mt (m0, none) (by rw [e0]; exact List.mem_cons_self)
      rw [p1, e0, prt_none (by omega), z1, f2, k1.lam, both_seq ⟨n5, n6⟩ (h.1 x).rg (k.1 x).rg ((h.1 x).ne h1) ((k.1 x).ne h2)] at y1
      exact ⟨y1, by omega, by omega, y4, by omega⟩
theorem Chd.seq2 {f g : WS → WS} {r1 c1 r2 c2 : List UInt8 → Nat} {L1 L2 : List (ByteArray × Nat)} (h : Chd pre2 f r1 c1 L1) (k : Chd pre2 g r2 c2 L2) : Chd pre2 (fun s => g (f s)) (fun x => eitherM (r1 x) (r2 x)) (fun x => c1 x + c2 x) (L1 ++ L2) := by
  refine ⟨fun x => gg_either (h.1 x) (k.1 x), fun s hs hp => ?_⟩
  obtain ⟨p1, k1, u1, a1⟩ := h.2 s hs hp
  obtain ⟨m0, mA, P, e0, e01, e02⟩ := hp
  have hm1 := k1.met
  have hs' : Wf (f s) := hs.step (by rw [p1]) k1 h.1 u1
  obtain ⟨p2, k2, u2, a2⟩ := k.2 (f s) hs' ⟨m0, mA, P, p1.trans e0, e01, by omega⟩
  refine ⟨p2.trans p1, k1.trans k2, fun x i hx => ?_, AskP.trans hs k1 k2 a1 a2⟩
  have hx' : (f s).named x = some i := by rw [k1.named]; exact hx
  obtain ⟨n1, n2, n3, n4, n5, n6, n7, n8⟩ := hs.nm x i hx
  obtain ⟨f1, f2, f3, f4⟩ := k1.fix i n1
  obtain ⟨v1, v2⟩ := u1 x i hx
  obtain ⟨w1, w2⟩ := u2 x i hx'
  have hm2 := k2.met
  show Upd s (g (f s)) i (eitherM (r1 x) (r2 x)) (c1 x + c2 x)
  refine ⟨fun hc => (w1 (by omega)).trans (v1 (by omega)), fun hc => ?_⟩
  rcases Nat.eq_zero_or_pos (c1 x) with h1 | h1
  · have hr1 := (h.1 x).one h1
    have e1 := v1 h1
    obtain ⟨y1, y2, y3, y4, y5⟩ := w2 (by omega)
    rw [e1, p1, k1.lam] at y1
    rw [e1] at y2
    refine ⟨?_, by omega, by omega, y4, by omega⟩
    rw [y1, hr1]
    have := (k.1 x).rg
    rcases five this.1 this.2 with e | e | e | e | e <;> rw [e] <;> rfl
  · obtain ⟨z1, z2, z3, z4, z5⟩ := v2 h1
    rcases Nat.eq_zero_or_pos (c2 x) with h2 | h2
    · have hr2 := (k.1 x).one h2
      rw [w1 h2]
      refine ⟨?_, by omega, z3, by omega, by omega⟩
      rw [z1, hr2]
      congr 2
      have := (h.1 x).rg
      rcases five this.1 this.2 with e | e | e | e | e <;> rw [e] <;> rfl
    · obtain ⟨y1, y2, y3, y4, y5⟩ := w2 h2
      rw [p1, e0, prt_some (by omega), decide_eq_true (show mA ≤ _ by omega), z1, f2, k1.lam, either_seq ⟨n5, n6⟩ (h.1 x).rg (k.1 x).rg ((h.1 x).ne h1) ((k.1 x).ne h2)] at y1
      exact ⟨y1, by omega, by omega, y4, by omega⟩
theorem Chd.congr {p : List (Nat × Option Nat) → Nat → Prop} {f g : WS → WS} {r c r' c' : List UInt8 → Nat} {L L' : List (ByteArray × Nat)} (h : Chd p f r c L) (hf : ∀ s, g s = f s) (hr : ∀ x, r' x = r x) (hc : ∀ x, c' x = c x) (hL : L' = L) : Chd p g r' c' L' := by
  have e1 : g = f := funext hf
  have e2 : r' = r := funext hr
  have e3 : c' = c := funext hc
  subst e1 e2 e3 hL; exact h
theorem Chd.fold1 {α : Type} (g : α → WS → WS) (r c : α → List UInt8 → Nat) (L : α → List (ByteArray × Nat)) : ∀ (l : List α) {f0 : WS → WS} {r0 c0 : List UInt8 → Nat} {L0 : List (ByteArray × Nat)}, Chd pre1 f0 r0 c0 L0 → (∀ a ∈ l, Chd pre1 (g a) (r a) (c a) (L a)) → Chd pre1 (fun s => l.foldl (fun s a => g a s) (f0 s)) (fun x => l.foldl (fun o a => bothM o (r a x)) (r0 x)) (fun x => c0 x + (l.map (fun a => c a x)).sum) (L0 ++ l.flatMap L)
  | [], _, _, _, _, h, _ => h.congr (fun _ => rfl) (fun _ => rfl) (fun _ => by simp) (by simp)
  | a :: l, _, _, _, _, h, hl => by
    have := Chd.fold1 g r c L l (h.seq1 (hl a List.mem_cons_self)) (fun b hb => hl b (List.mem_cons_of_mem _ hb))
    exact this.congr (fun _ => rfl) (fun _ => rfl) (fun _ => by simp [Nat.add_assoc]) (by simp)
theorem Chd.fold2 {α : Type} (g : α → WS → WS) (r c : α → List UInt8 → Nat) (L : α → List (ByteArray × Nat)) : ∀ (l : List α) {f0 : WS → WS} {r0 c0 : List UInt8 → Nat} {L0 : List (ByteArray × Nat)}, Chd pre2 f0 r0 c0 L0 → (∀ a ∈ l, Chd pre2 (g a) (r a) (c a) (L a)) → Chd pre2 (fun s => l.foldl (fun s a => g a s) (f0 s)) (fun x => l.foldl (fun o a => eitherM o (r a x)) (r0 x)) (fun x => c0 x + (l.map (fun a => c a x)).sum) (L0 ++ l.flatMap L)
  | [], _, _, _, _, h, _ => h.congr (fun _ => rfl) (fun _ => rfl) (fun _ => by simp) (by simp)
  | a :: l, _, _, _, _, h, hl => by
    have := Chd.fold2 g r c L l (h.seq2 (hl a List.mem_cons_self)) (fun b hb => hl b (List.mem_cons_of_mem _ hb))
    exact this.congr (fun _ => rfl) (fun _ => rfl) (fun _ => by simp [Nat.add_assoc]) (by simp)
theorem chd_id (p : List (Nat × Option Nat) → Nat → Prop) : Chd p (fun s => s) (fun _ => 1) (fun _ => 0) [] :=
  ⟨fun _ => (by decide : 1 ≤ 1 ∧ 1 ≤ 5 ∧ (0 = 0 ↔ 1 = 1)), fun s hs hp => ⟨rfl, Kept.refl s, fun x i hx => ⟨fun _ => rfl, fun (h : 1 ≤ 0) => by omega⟩, ⟨[], by simp, rfl, fun i hi => by cases hi⟩⟩⟩
end Go.Proofs.YtjmpjfggbhongaaDoor
