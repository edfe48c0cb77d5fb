/-
  Of the core, what is wanted here: part 10.
-/
import Derived.Deep.LoopGhost
import Derived.Deep.RegionHeld3
import Derived.Deep.CutBlock
import Derived.Deep.CutRange
import Derived.Test.YtjmpjfggbhongaaDoorP09
namespace Go.Proofs.YtjmpjfggbhongaaDoor
open Go.RowKit Go.Shelf Go.Maps
set_option linter.unusedVariables false
/-- What is changed: a set of names, which grows. -/
structure NmR (m : Nat) (w : World) (C : Nat) (G : List UInt8 → Bool) (W : World) : Prop where
  but : But m w W
  set : ∃ c, c ≤ C ∧ SetIs W m c G
/-- All that is written down. -/
def allN (own : (d : Nat) → Tr (d + 1) → List (List UInt8)) : (d : Nat) → Tr d → List (List UInt8)
  | 0, t => nomatch t
  | d + 1, t => own d t ++ ((TrN.binds t).flatMap (fun b => allN own d b.2) ++ ((TrN.args t).flatMap (fun e => allN own d e) ++ (TrN.alts t).flatMap (fun a => allN own d a.2)))
end Go.Proofs.YtjmpjfggbhongaaDoor
namespace Go.Proofs.YtjmpjfggbhongaaDoor
open Go.RowKit Go.Shelf Go.Maps
set_option linter.unusedVariables false
def ownN (d : Nat) (t : Tr (d + 1)) : List (List UInt8) := (if TrN.kind t = 1 then [(TrN.name t).data.toList] else []) ++ (dl (TrN.params t) ++ (dl ((TrN.binds t).map Prod.fst) ++ (TrN.alts t).flatMap (fun a => dl a.1.vars)))
theorem NmR.drew {m : Nat} {w W : World} {C : Nat} {G : List UInt8 → Bool} (h : NmR m w C G W) : NmR m w C G W.drew := by
  obtain ⟨⟨h1, h2, h3, h4, h5⟩, c, hc, hs⟩ := h
  exact ⟨⟨h1, h2, h3, h4, h5⟩, c, hc, hs.same rfl⟩
theorem NmR.below {m : Nat} {w W W' : World} {C : Nat} {G : List UInt8 → Bool} (h : NmR m w C G W) (hb : Below W.heap.size W W') : NmR m w C G W' := by
  obtain ⟨h1, c, hc, hs⟩ := h
  have := h1.size
  exact ⟨⟨hb.os.trans h1.os, hb.tape.trans h1.tape, hb.output.trans h1.output, Nat.le_trans h1.size hb.size, fun k hk hn => (hb.block k (by omega)).trans (h1.block k hk hn)⟩, c, hc, hs.same (hb.block _ hs.lt)⟩
end Go.Proofs.YtjmpjfggbhongaaDoor
namespace Go.Proofs.YtjmpjfggbhongaaDoor
open Go.RowKit Go.Shelf Go.Maps
set_option linter.unusedVariables false
/-- It is nested at most so deep. -/
def depLe : (d : Nat) → Tr d → Nat → Prop
  | 0, t, _ => nomatch t
  | _ + 1, _, 0 => False
  | d + 1, t, k + 1 => (∀ b ∈ TrN.binds t, depLe d b.2 k) ∧ (∀ e ∈ TrN.args t, depLe d e k) ∧ ∀ a ∈ TrN.alts t, depLe d a.2 k
/-- How many expressions and names there are, as the kit counts them. -/
def cntM : (d : Nat) → Tr d → Nat
  | 0, t => nomatch t
  | d + 1, t => 1 + (TrN.params t).length + (TrN.name t).size / 64 + ((TrN.params t).map (fun x => x.size / 64)).sum + ((TrN.binds t).map fun b => 1 + b.1.size / 64 + cntM d b.2).sum + ((TrN.args t).map (cntM d)).sum +
      ((TrN.alts t).map fun a => a.1.vars.length + a.1.name.size / 64 + cntM d a.2 + (a.1.vars.map (fun x => x.size / 64)).sum).sum
theorem map_congr' {α β : Type} {l : List α} {f g : α → β} (h : ∀ x ∈ l, f x = g x) : l.map f = l.map g := List.map_congr_left h
theorem sum_le {α : Type} {f g : α → Nat} : ∀ {l : List α}, (∀ x ∈ l, f x ≤ g x) → (l.map f).sum ≤ (l.map g).sum
  | [], _ => Nat.le_refl _
  | x :: l, h => by
    rw [List.map_cons, List.map_cons, List.sum_cons, List.sum_cons]
    have := h x List.mem_cons_self
    have := sum_le (l := l) (fun y hy => h y (List.mem_cons_of_mem _ hy))
    omega
theorem mem_sum {α : Type} {f : α → Nat} : ∀ {l : List α} {x : α}, x ∈ l → f x ≤ (l.map f).sum
  | y :: l, x, h => by
    rw [List.map_cons, List.sum_cons]
    rcases List.mem_cons.1 h with rfl | h
    · omega
    · have := mem_sum (f := f) h; omega
theorem len_sumE {α : Type} {f : α → Nat} {l : List α} (h : ∀ x ∈ l, 1 ≤ f x) : l.length ≤ (l.map f).sum := by
  induction l with
  | nil => exact Nat.le_refl _
  | cons x l ih =>
    rw [List.map_cons, List.sum_cons, List.length_cons]
    have := h x List.mem_cons_self
    have := ih (fun y hy => h y (List.mem_cons_of_mem _ hy))
    omega
theorem sum_add {α : Type} {f g : α → Nat} {l : List α} : (l.map (fun x => f x + g x)).sum = (l.map f).sum + (l.map g).sum := by
  induction l with
  | nil => rfl
  | cons x l ih => rw [List.map_cons, List.map_cons, List.map_cons, List.sum_cons, List.sum_cons, List.sum_cons, ih]; omega
theorem cnt_pos {d : Nat} (t : Tr d) : 1 ≤ cntM d t := by
  cases d with
  | zero => exact nomatch t
  | succ d => show 1 ≤ 1 + _ + _ + _ + _ + _ + _; omega
theorem cost_le_cnt : ∀ (d : Nat) (t : Tr d), costM d t + sizeM d t ≤ cntM d t
  | 0, t => nomatch t
  | d + 1, t => by
    have e1 : (TrN.binds t).length + ((TrN.binds t).map fun b => costM d b.2).sum + ((TrN.binds t).map fun b => sizeM d b.2).sum ≤ ((TrN.binds t).map fun b => 1 + b.1.size / 64 + cntM d b.2).sum := by
      have h1 : ((TrN.binds t).map fun b => 1 + (costM d b.2 + sizeM d b.2)).sum ≤ ((TrN.binds t).map fun b => 1 + b.1.size / 64 + cntM d b.2).sum := sum_le (fun x _ => by have := cost_le_cnt d x.2; omega)
      have h2 : ((TrN.binds t).map fun b => 1 + (costM d b.2 + sizeM d b.2)).sum = ((TrN.binds t).map fun _ => 1).sum + ((TrN.binds t).map fun b => costM d b.2 + sizeM d b.2).sum := sum_add
      have h3 : ((TrN.binds t).map fun b => costM d b.2 + sizeM d b.2).sum = ((TrN.binds t).map fun b => costM d b.2).sum + ((TrN.binds t).map fun b => sizeM d b.2).sum := sum_add
      have h4 : (TrN.binds t).length ≤ ((TrN.binds t).map fun _ => 1).sum := len_sumE (fun _ _ => Nat.le_refl _)
      omega
    have e2 : ((TrN.args t).map (fun e => costM d e)).sum + ((TrN.args t).map (sizeM d)).sum ≤ ((TrN.args t).map (cntM d)).sum := by
      rw [← sum_add]
      exact sum_le (fun x _ => cost_le_cnt d x)
    have e3 : ((TrN.alts t).map fun a => a.1.vars.length + costM d a.2).sum + ((TrN.alts t).map fun a => sizeM d a.2).sum ≤ ((TrN.alts t).map fun a => a.1.vars.length + a.1.name.size / 64 + cntM d a.2 + (a.1.vars.map (fun x => x.size / 64)).sum).sum := by
      rw [← sum_add]
      exact sum_le (fun x _ => by have := cost_le_cnt d x.2; omega)
    have e0 : (bndM t).length = (TrN.params t).length + (TrN.binds t).length := by unfold bndM; rw [List.length_append, List.length_map]
    show ((bndM t).length + _ + _ + _) + (1 + _ + _ + _) ≤ 1 + _ + _ + _ + _ + _ + _
    omega
/-- What a tree that was read, and is small, is good for. -/
theorem fit_of : ∀ (d : Nat) (t : Tr d), WfT d t → cntM d t ≤ 1000000 → Fit d t
  | 0, t, _, _ => nomatch t
  | d + 1, t, h, hc => by
    obtain ⟨h0, h1, h2, ⟨b3, q3⟩, ⟨b4, q4⟩, ⟨b5, q5⟩, ⟨b6, q6⟩⟩ := h
    have hc' : 1 + (TrN.params t).length + (TrN.name t).size / 64 + ((TrN.params t).map (fun x => x.size / 64)).sum + ((TrN.binds t).map fun b => 1 + b.1.size / 64 + cntM d b.2).sum + ((TrN.args t).map (cntM d)).sum + ((TrN.alts t).map fun a => a.1.vars.length + a.1.name.size / 64 + cntM d a.2 + (a.1.vars.map (fun x => x.size / 64)).sum).sum ≤ 1000000 := hc
    have hLB : LB ≤ maxLen := by unfold LB maxLen; omega
    have c4 : (TrN.binds t).length ≤ ((TrN.binds t).map fun b => 1 + b.1.size / 64 + cntM d b.2).sum := len_sumE (fun x _ => by omega)
    have c5 : (TrN.args t).length ≤ ((TrN.args t).map (cntM d)).sum := len_sumE (fun x _ => cnt_pos x)
    have c6 : (TrN.alts t).length ≤ ((TrN.alts t).map fun a => a.1.vars.length + a.1.name.size / 64 + cntM d a.2 + (a.1.vars.map (fun x => x.size / 64)).sum).sum := len_sumE (fun x _ => by have := cnt_pos x.2; omega)
    refine ⟨⟨Nat.le_trans h1 hLB, ⟨by omega, fun x hx => Nat.le_trans (q3 x hx) hLB⟩, ⟨by omega, fun b hb => Nat.le_trans (q4 b hb).1 hLB⟩, by omega, by omega, fun a ha => ?_⟩, fun b hb => ?_, fun e he => ?_, fun a ha => ?_⟩
    · obtain ⟨p1, p2, p3, ⟨p4, p5⟩, p6⟩ := q6 a ha
      have := mem_sum (f := fun (a : AltH × Tr d) => a.1.vars.length + a.1.name.size / 64 + cntM d a.2 + (a.1.vars.map (fun x => x.size / 64)).sum) ha
      exact ⟨Nat.le_trans p2 hLB, by omega, fun x hx => Nat.le_trans (p5 x hx) hLB, p3⟩
    · have := mem_sum (f := fun (b : ByteArray × Tr d) => 1 + b.1.size / 64 + cntM d b.2) hb
      exact fit_of d _ (q4 b hb).2 (by omega)
    · have := mem_sum (f := cntM d) he
      exact fit_of d _ (q5 e he) (by omega)
    · have := mem_sum (f := fun (a : AltH × Tr d) => a.1.vars.length + a.1.name.size / 64 + cntM d a.2 + (a.1.vars.map (fun x => x.size / 64)).sum) ha
      exact fit_of d _ (q6 a ha).2.2.2.2 (by omega)
theorem nm_of : ∀ (d : Nat) (t : Tr d), WfT d t → NmOK d t
  | 0, t, _ => nomatch t
  | d + 1, t, h => by
    obtain ⟨h0, h1, h2, ⟨b3, q3⟩, ⟨b4, q4⟩, ⟨b5, q5⟩, ⟨b6, q6⟩⟩ := h
    have hLB : LB ≤ maxLen := by unfold LB maxLen; omega
    refine ⟨Nat.le_trans h1 hLB, fun x hx => ?_, fun b hb => nm_of d _ (q4 b hb).2, fun e he => nm_of d _ (q5 e he), fun a ha => ?_⟩
    · unfold bndM at hx
      rcases List.mem_append.1 hx with hx | hx
      · exact Nat.le_trans (q3 x hx) hLB
      · obtain ⟨b, hb, rfl⟩ := List.mem_map.1 hx
        exact Nat.le_trans (q4 b hb).1 hLB
    · obtain ⟨p1, p2, p3, ⟨p4, p5⟩, p6⟩ := q6 a ha
      exact ⟨fun x hx => Nat.le_trans (p5 x hx) hLB, nm_of d _ p6⟩
theorem allOwn_len : ∀ (d : Nat) (t : Tr d), (allN ownN d t).length ≤ cntM d t
  | 0, t => nomatch t
  | d + 1, t => by
    have fl : ∀ {α : Type} (l : List α) (f : α → List (List UInt8)), (l.flatMap f).length = (l.map (fun x => (f x).length)).sum := fun l f => by rw [List.length_flatMap]
    have e0 : (ownN d t).length ≤ 1 + (TrN.params t).length + (TrN.binds t).length + ((TrN.alts t).map (fun a => a.1.vars.length)).sum := by
      unfold ownN
      rw [List.length_append, List.length_append, List.length_append, fl]
      have a1 : (if TrN.kind t = 1 then [(TrN.name t).data.toList] else []).length ≤ 1 := by split <;> simp
      have a2 : (dl (TrN.params t)).length = (TrN.params t).length := by unfold dl; rw [List.length_map]
      have a3 : (dl ((TrN.binds t).map Prod.fst)).length = (TrN.binds t).length := by unfold dl; rw [List.length_map, List.length_map]
      have a4 : ((TrN.alts t).map (fun a => (dl a.1.vars).length)) = ((TrN.alts t).map (fun a => a.1.vars.length)) := map_congr' (fun x _ => by unfold dl; rw [List.length_map])
      rw [a4]
      omega
    have e1 : (TrN.binds t).length + ((TrN.binds t).map fun b => (allN ownN d b.2).length).sum ≤ ((TrN.binds t).map fun b => 1 + b.1.size / 64 + cntM d b.2).sum := by
      have h1 : ((TrN.binds t).map fun b => 1 + (allN ownN d b.2).length).sum ≤ ((TrN.binds t).map fun b => 1 + b.1.size / 64 + cntM d b.2).sum := sum_le (fun x _ => by have := allOwn_len d x.2; omega)
      have h2 : ((TrN.binds t).map fun b => 1 + (allN ownN d b.2).length).sum = ((TrN.binds t).map fun _ => 1).sum + ((TrN.binds t).map fun b => (allN ownN d b.2).length).sum := sum_add
      have h4 : (TrN.binds t).length ≤ ((TrN.binds t).map fun _ => 1).sum := len_sumE (fun _ _ => Nat.le_refl _)
      omega
    have e2 : ((TrN.args t).map (fun e => (allN ownN d e).length)).sum ≤ ((TrN.args t).map (cntM d)).sum := sum_le (fun x _ => allOwn_len d x)
    have e3 : ((TrN.alts t).map (fun a => a.1.vars.length)).sum + ((TrN.alts t).map fun a => (allN ownN d a.2).length).sum ≤ ((TrN.alts t).map fun a => a.1.vars.length + a.1.name.size / 64 + cntM d a.2 + (a.1.vars.map (fun x => x.size / 64)).sum).sum := by
      rw [← sum_add]
      exact sum_le (fun x _ => by have := allOwn_len d x.2; omega)
    show (ownN d t ++ ((TrN.binds t).flatMap (fun b => allN ownN d b.2) ++ ((TrN.args t).flatMap (fun e => allN ownN d e) ++ (TrN.alts t).flatMap (fun a => allN ownN d a.2)))).length ≤ 1 + _ + _ + _ + _ + _ + _
    rw [List.length_append, List.length_append, List.length_append, fl, fl, fl]
    omega
end Go.Proofs.YtjmpjfggbhongaaDoor
namespace Go.Proofs.YtjmpjfggbhongaaDoor
open Go.RowKit Go.Shelf Go.Maps
set_option linter.unusedVariables false
theorem any_and {α : Type} (l : List α) (f : α → Bool) (c : Bool) : l.any (fun x => f x && c) = (l.any f && c) := by
  induction l with
  | nil => simp
  | cons x l ih => rw [List.any_cons, List.any_cons, ih]; cases f x <;> cases c <;> simp
theorem any_congr' {α : Type} {l : List α} {f g : α → Bool} (h : ∀ x ∈ l, f x = g x) : l.any f = l.any g := by
  induction l with
  | nil => rfl
  | cons x l ih => rw [List.any_cons, List.any_cons, h x List.mem_cons_self, ih (fun y hy => h y (List.mem_cons_of_mem _ hy))]
theorem con_app (a b : List (List UInt8)) (x : List UInt8) : (a ++ b).contains x = (a.contains x || b.contains x) := by
  rw [Bool.eq_iff_iff]; simp
/-- What is free under more names. -/
theorem freeM_app : ∀ (d : Nat) (t : Tr d) (ms ns : List (List UInt8)) (x : List UInt8), freeM d t (ms ++ ns) x = (freeM d t ms x && !ns.contains x)
  | 0, t, _, _, _ => nomatch t
  | d + 1, t, ms, ns, x => by
    have e1 : ((TrN.binds t).any fun b => freeM d b.2 (dl (bndM t).reverse ++ (ms ++ ns)) x) = (((TrN.binds t).any fun b => freeM d b.2 (dl (bndM t).reverse ++ ms) x) && !ns.contains x) := by
      rw [← any_and]; exact any_congr' (fun b _ => by rw [← List.append_assoc]; exact freeM_app d _ _ _ _)
    have e2 : ((TrN.args t).any fun e => freeM d e (dl (bndM t).reverse ++ (ms ++ ns)) x) = (((TrN.args t).any fun e => freeM d e (dl (bndM t).reverse ++ ms) x) && !ns.contains x) := by
      rw [← any_and]; exact any_congr' (fun b _ => by rw [← List.append_assoc]; exact freeM_app d _ _ _ _)
    have e3 : ((TrN.alts t).any fun a => freeM d a.2 (dl a.1.vars.reverse ++ (dl (bndM t).reverse ++ (ms ++ ns))) x) = (((TrN.alts t).any fun a => freeM d a.2 (dl a.1.vars.reverse ++ (dl (bndM t).reverse ++ ms)) x) && !ns.contains x) := by
      rw [← any_and]; exact any_congr' (fun b _ => by rw [← List.append_assoc (dl (bndM t).reverse), ← List.append_assoc]; exact freeM_app d _ _ _ _)
    have e0 : ((TrN.kind t == 1) && (!(dl (bndM t).reverse ++ (ms ++ ns)).contains (TrN.name t).data.toList) && (x == (TrN.name t).data.toList)) = (((TrN.kind t == 1) && (!(dl (bndM t).reverse ++ ms).contains (TrN.name t).data.toList) && (x == (TrN.name t).data.toList)) && !ns.contains x) := by
      rw [← List.append_assoc, con_app _ ns]
      by_cases hx : x = (TrN.name t).data.toList
      · subst hx
        cases (TrN.kind t == 1) <;> cases (dl (bndM t).reverse ++ ms).contains (TrN.name t).data.toList <;> cases ns.contains (TrN.name t).data.toList <;> simp
      · have : (x == (TrN.name t).data.toList) = false := by simpa using hx
        rw [this]; simp
    show (((TrN.kind t == 1) && _ && _) || _ || _ || _) = ((((TrN.kind t == 1) && _ && _) || _ || _ || _) && _)
    rw [e0, e1, e2, e3]
    generalize ((TrN.kind t == 1) && (!(dl (bndM t).reverse ++ ms).contains (TrN.name t).data.toList) && (x == (TrN.name t).data.toList)) = p0
    generalize ((TrN.binds t).any fun b => freeM d b.2 (dl (bndM t).reverse ++ ms) x) = p1
    generalize ((TrN.args t).any fun e => freeM d e (dl (bndM t).reverse ++ ms) x) = p2
    generalize ((TrN.alts t).any fun a => freeM d a.2 (dl a.1.vars.reverse ++ (dl (bndM t).reverse ++ ms)) x) = p3
    cases p0 <;> cases p1 <;> cases p2 <;> cases p3 <;> cases ns.contains x <;> rfl
theorem freeM_nil (d : Nat) (t : Tr d) (ns : List (List UInt8)) (x : List UInt8) : freeM d t ns x = (freeM d t [] x && !ns.contains x) := freeM_app d t [] ns x
/-- A variable has nothing but its name. -/
def VarOK : (d : Nat) → Tr d → Prop
  | 0, t => nomatch t
  | d + 1, t => (TrN.kind t = 1 → TrN.params t = [] ∧ TrN.binds t = [] ∧ TrN.args t = [] ∧ TrN.alts t = []) ∧ (∀ b ∈ TrN.binds t, VarOK d b.2) ∧ (∀ e ∈ TrN.args t, VarOK d e) ∧ ∀ a ∈ TrN.alts t, VarOK d a.2
theorem All2.cons {α β : Type} {R : α → β → Prop} {a : α} {l : List α} {b : β} {l' : List β} (h : All2 R (a :: l) (b :: l')) : R a b ∧ All2 R l l' :=
  ⟨h.2 0 (by simp) (by simp), by have := h.1; simpa using this, fun k h1 h2 => by have := h.2 (k + 1) (by simp; omega) (by simp; omega); simpa using this⟩
end Go.Proofs.YtjmpjfggbhongaaDoor
namespace Go.Proofs.YtjmpjfggbhongaaDoor
open Go.RowKit Go.Shelf Go.Maps
set_option linter.unusedVariables false
/-- An expression's value, whatever the depth. -/
def ExV (W : World) : (d : Nat) → Tr d → Value → Prop
  | 0, t, _ => nomatch t
  | d + 1, t, v => ExVal W W.heap.size d t v
theorem ExAt.get {W : World} {B : Nat} : ∀ {d : Nat} {t : Tr d} {g off : Nat}, ExAt W B d t g off → B ≤ W.heap.size → ∃ (kd : Int) (nm : ByteArray) (nu : Int) (o3 : Option Addr) (n3 c3 : Nat) (o4 : Option Addr) (n4 c4 : Nat) (o5 : Option Addr) (n5 c5 : Nat) (o6 : Option Addr) (n6 c6 : Nat),
    W.cell? ⟨g, off, none⟩ = some (.int .i64 kd) ∧ W.cell? ⟨g, off + 1, none⟩ = some (.string nm) ∧ W.cell? ⟨g, off + 2, none⟩ = some (.int .i64 nu) ∧ W.cell? ⟨g, off + 3, none⟩ = some (.slice o3 n3 c3) ∧ W.cell? ⟨g, off + 4, none⟩ = some (.slice o4 n4 c4) ∧ W.cell? ⟨g, off + 5, none⟩ = some (.slice o5 n5 c5) ∧ W.cell? ⟨g, off + 6, none⟩ = some (.slice o6 n6 c6) ∧ ExV W d t (.agg #[.int .i64 kd, .string nm, .int .i64 nu, .slice o3 n3 c3, .slice o4 n4 c4, .slice o5 n5 c5, .slice o6 n6 c6])
  | 0, t, _, _, _, _ => nomatch t
  | d + 1, t, g, off, h, hB => by
    obtain ⟨hg, h0, h1, h2, ⟨o3, c3, h3, k3⟩, ⟨o4, c4, h4, k4⟩, ⟨o5, c5, h5, k5⟩, ⟨o6, c6, h6, k6⟩⟩ := h
    refine ⟨_, _, _, _, _, _, _, _, _, _, _, _, _, _, _, h0, h1, h2, h3, h4, h5, h6, ?_⟩
    refine ⟨o3, c3, o4, c4, o5, c5, o6, c6, rfl, k3.mono hB, k4.up hB ?_, k5.up hB ?_, k6.up hB ?_⟩
    · rintro x g off hg ⟨e1, e2⟩
      exact ⟨e1, ExAt.up hB d _ _ _ e2⟩
    · intro x g off hg e
      exact ExAt.up hB d _ _ _ e
    · rintro x g off hg ⟨e1, e2, e3, ⟨o, c, e4, e5⟩, e6⟩
      exact ⟨e1, e2, e3, ⟨o, c, e4, e5.mono hB⟩, ExAt.up hB d _ _ _ e6⟩
/-- What is known of what countExprs answers. -/
def CntP (most : Int) (D d : Nat) (t : Tr d) (w : World) (r : Ending) (W' : World) : Prop := ∃ x : Int, r = .returned (.int .i64 x) ∧ (1 ≤ x ∧ x ≤ 600000000000000 * ((D : Int) + 1)) ∧ (x ≤ most → depLe d t D ∧ (cntM d t : Int) = x) ∧ Below w.heap.size w W'
def CntOK (most : Int) (D : Nat) : Prop := ∀ (d : Nat) (t : Tr d) (v : Value) (w : World), ExV w d t v → WfT d t → Calls Tryd.prog 23 #[v, .int .i64 most, .int .i64 D] w fun r W' => CntP most D d t w r W'
set_option maxRecDepth 100000 in
set_option maxHeartbeats 4000000 in
theorem cnt_zero (most : Int) (hm : 0 ≤ most ∧ most ≤ 1000000) : CntOK most 0 := by
  intro d t v w hv hw
  cases d with
  | zero => exact nomatch t
  | succ d =>
    obtain ⟨o3, c3, o4, c4, o5, c5, o6, c6, rfl, k3, k4, k5, k6⟩ := hv
    obtain ⟨-, h1, -, ⟨h3, -⟩, -⟩ := hw
    have HB : Hid (∀ a, Below w.heap.size w (w.alloc a)) := fun a => below1 w a
    unfold LB at h1 h3
    generalize TrN.kind t = kd at *
    generalize TrN.name t = nm at *
    generalize TrN.num t = nu at *
    generalize (TrN.params t).length = n3 at *
    generalize (TrN.binds t).length = n4 at *
    generalize (TrN.args t).length = n5 at *
    generalize (TrN.alts t).length = n6 at *
    have h1z : (nm.size : Int) ≤ 140737488355328 := by omega
    have h3z : (n3 : Int) ≤ 140737488355328 := by omega
    obtain ⟨hm0, hm1⟩ := hm
    clear k3 k4 k5 k6
    go_enter Tryd.func23, Tryd.ntmps23
    go_wp2
    go_ret
    exact ⟨_, rfl, ⟨by omega, by omega⟩, fun h => by omega, HB.out _⟩
end Go.Proofs.YtjmpjfggbhongaaDoor
namespace Go.Proofs.YtjmpjfggbhongaaDoor
open Go.RowKit Go.Shelf Go.Maps
set_option linter.unusedVariables false
set_option maxRecDepth 100000 in
set_option maxHeartbeats 4000000 in
theorem up2n {V X Y : World} (h : Hid (Below V.heap.size V X)) (k : Below X.heap.size X Y) : Hid (Below V.heap.size V Y) := h.out.trans (k.mono h.out.size)
theorem ExV.below {W W' : World} : ∀ {d : Nat} {t : Tr d} {v : Value}, ExV W d t v → Below W.heap.size W W' → ExV W' d t v
  | 0, t, _, _, _ => nomatch t
  | d + 1, t, v, h, hb => ExVal.grow h hb
set_option maxRecDepth 100000 in
set_option maxHeartbeats 4000000 in
theorem cnt_succ (most : Int) (hm : 0 ≤ most ∧ most ≤ 1000000) (D : Nat) (hD : D ≤ 1000) (ih : CntOK most D) : CntOK most (D + 1) := by
  intro d t v w hv hw
  cases d with
  | zero => exact nomatch t
  | succ d =>
    obtain ⟨o3, c3, o4, c4, o5, c5, o6, c6, rfl, k3, k4, k5, k6⟩ := hv
    obtain ⟨-, h1, -, ⟨h3, s3⟩, ⟨h4, s4⟩, ⟨h5, s5⟩, ⟨h6, s6⟩⟩ := hw
    obtain ⟨n3, hn3⟩ : ∃ n, (TrN.params t).length = n := ⟨_, rfl⟩
    obtain ⟨n4, hn4⟩ : ∃ n, (TrN.binds t).length = n := ⟨_, rfl⟩
    obtain ⟨n5, hn5⟩ : ∃ n, (TrN.args t).length = n := ⟨_, rfl⟩
    obtain ⟨n6, hn6⟩ : ∃ n, (TrN.alts t).length = n := ⟨_, rfl⟩
    obtain ⟨nm, hnm⟩ : ∃ n, TrN.name t = n := ⟨_, rfl⟩
    obtain ⟨kd, hkd⟩ : ∃ n, TrN.kind t = n := ⟨_, rfl⟩
    obtain ⟨nu, hnu⟩ : ∃ n, TrN.num t = n := ⟨_, rfl⟩
    have HN : Hid ((TrN.params t).length = n3 ∧ (TrN.binds t).length = n4 ∧ (TrN.args t).length = n5 ∧ (TrN.alts t).length = n6 ∧ TrN.name t = nm) := ⟨hn3, hn4, hn5, hn6, hnm⟩
    have HK3 : Hid (TxIn w w.heap.size o3 (TrN.params t)) := k3
    have HK4 : Hid (RowIn w.heap.size 8 (fun (b : ByteArray × Tr d) g off => w.cell? ⟨g, off, none⟩ = some (.string b.1) ∧ ExAt w w.heap.size d b.2 g (off + 1)) o4 (TrN.binds t)) := k4
    have HK5 : Hid (RowIn w.heap.size 7 (fun (x : Tr d) g off => ExAt w w.heap.size d x g off) o5 (TrN.args t)) := k5
    have HK6 : Hid (RowIn w.heap.size 11 (fun (a : AltH × Tr d) g off => w.cell? ⟨g, off, none⟩ = some (.int .i64 a.1.kind) ∧ w.cell? ⟨g, off + 1, none⟩ = some (.string a.1.name) ∧ w.cell? ⟨g, off + 2, none⟩ = some (.int .i64 a.1.num) ∧ (∃ o c, w.cell? ⟨g, off + 3, none⟩ = some (.slice o a.1.vars.length c) ∧ TxIn w w.heap.size o a.1.vars) ∧ ExAt w w.heap.size d a.2 g (off + 4)) o6 (TrN.alts t)) := k6
    have HS3 : Hid (∀ x ∈ TrN.params t, x.size ≤ LB) := s3
    have HS4 : Hid (∀ b ∈ TrN.binds t, b.1.size ≤ LB ∧ WfT d b.2) := s4
    have HS5 : Hid (∀ e ∈ TrN.args t, WfT d e) := s5
    have HS6 : Hid (∀ a ∈ TrN.alts t, Lit.wf (.int .i64 a.1.kind) = true ∧ a.1.name.size ≤ LB ∧ Lit.wf (.int .i64 a.1.num) = true ∧ (a.1.vars.length ≤ LB ∧ ∀ x ∈ a.1.vars, x.size ≤ LB) ∧ WfT d a.2) := s6
    rw [hn3] at h3
    rw [hn4] at h4
    rw [hn5] at h5
    rw [hn6] at h6
    rw [hnm] at h1
    rw [hkd, hnm, hnu, hn3, hn4, hn5, hn6]
    unfold LB at h1 h3 h4 h5 h6
    have h1z : (nm.size : Int) ≤ 140737488355328 := by omega
    have h3z : (n3 : Int) ≤ 140737488355328 := by omega
    have h4z : (n4 : Int) ≤ 140737488355328 := by omega
    have h5z : (n5 : Int) ≤ 140737488355328 := by omega
    have h6z : (n6 : Int) ≤ 140737488355328 := by omega
    obtain ⟨hm0, hm1⟩ := hm
    have hDB : (D : Int) ≤ 1000 := by omega
    have hDB0 : 0 ≤ (D : Int) := by omega
    have hd0 : ¬ ((D + 1 : Nat) : Int) = 0 := by omega
    have hd1 : (((D + 1 : Nat) : Int) == 0) = false := by simpa using hd0
    have hdw : ((D + 1 : Nat) : Int) - 1 = (D : Int) := by omega
    obtain ⟨dd, hdd⟩ : ∃ dd : Int, dd = ((D + 1 : Nat) : Int) := ⟨_, rfl⟩
    have HDD : Hid (dd - 1 = (D : Int)) := by show _ = _; omega
    have hdw2 : IntKind.i64.wrap (dd - 1) = dd - 1 := by rw [IntKind.wrap_i64]; omega
    rw [← hdd] at hd0 hd1 ⊢
    obtain ⟨U, hU⟩ : ∃ U : Int, U = 600000000000000 * ((D : Int) + 1) := ⟨_, rfl⟩
    have hU0 : 600000000000000 ≤ U := by omega
    have hU1 : U ≤ 1000000000000000000 := by omega
    have HIH : Hid (∀ (d : Nat) (t : Tr d) (v : Value) (w : World), ExV w d t v → WfT d t → Calls Tryd.prog 23 #[v, .int .i64 most, .int .i64 (dd - 1)] w fun r W' => ∃ x : Int, r = .returned (.int .i64 x) ∧ (1 ≤ x ∧ x ≤ U) ∧ (x ≤ most → depLe d t D ∧ (cntM d t : Int) = x) ∧ Below w.heap.size w W') := by
      rw [HDD.out, hU]
      exact fun d t v w h1 h2 => ih d t v w h1 h2
    have HR : Hid (∀ (x : Int) (W' : World), 1 ≤ x → x ≤ U + 600000000000000 → (x ≤ most → depLe (d + 1) t (D + 1) ∧ (cntM (d + 1) t : Int) = x) → Below w.heap.size w W' → CntP most (D + 1) (d + 1) t w (.returned (.int .i64 x)) W') := fun x W' a1 a2 a3 a4 => ⟨x, rfl, ⟨a1, by rw [hU] at a2; omega⟩, a3, a4⟩
    have HB0 : Hid (Below w.heap.size w (w.alloc (.cells #[.int .i64 kd, .string nm, .int .i64 nu, .slice o3 n3 c3, .slice o4 n4 c4, .slice o5 n5 c5, .slice o6 n6 c6] 29)) ∧ Blk (w.alloc (.cells #[.int .i64 kd, .string nm, .int .i64 nu, .slice o3 n3 c3, .slice o4 n4 c4, .slice o5 n5 c5, .slice o6 n6 c6] 29)) w.heap.size #[.int .i64 kd, .string nm, .int .i64 nu, .slice o3 n3 c3, .slice o4 n4 c4, .slice o5 n5 c5, .slice o6 n6 c6] 29) := ⟨below1 w _, Blk.new w _ _⟩
    clear hn3 hn4 hn5 hn6 hnm hkd hnu k3 k4 k5 k6 s3 s4 s5 s6 hdd hdw hU ih hD
    go_enter Tryd.func23, Tryd.ntmps23
    go_upto_block 0 with fail
    go_cut [7, 8] from 26 to 46 (fun s7 s8 wx => ∃ x : Int, s7 = .int .i64 x ∧ (1 ≤ x ∧ x ≤ U + 600000000000000) ∧ Hid (x ≤ most → ((1 + n3 + nm.size / 64 + ((((TrN.params t)).map (fun x : ByteArray => x.size / 64)).sum : Nat) : Nat) : Int) = x) ∧ Hid (Below w.heap.size w wx ∧ Blk wx w.heap.size #[.int .i64 kd, .string nm, .int .i64 nu, .slice o3 n3 c3, .slice o4 n4 c4, .slice o5 n5 c5, .slice o6 n6 c6] 29))
    case first =>
      go_wp2_with fail
      go_loopg [7, 8] n3 (fun g s7 s8 wr => ∃ (x : Int) (k : Nat), s7 = .int .i64 x ∧ s8 = .int .i64 k ∧ k ≤ n3 ∧ n3 - k ≤ g ∧ (1 ≤ x ∧ x ≤ U + 600000000000000) ∧ Hid (x ≤ most → ((1 + n3 + nm.size / 64 + ((((TrN.params t).take k).map (fun x : ByteArray => x.size / 64)).sum : Nat) : Nat) : Int) = x) ∧ Hid (Below w.heap.size w wr ∧ Blk wr w.heap.size #[.int .i64 kd, .string nm, .int .i64 nu, .slice o3 n3 c3, .slice o4 n4 c4, .slice o5 n5 c5, .slice o6 n6 c6] 29))
      case atStart => exact ⟨_, 0, rfl, rfl, Nat.zero_le _, Nat.le_refl _, ⟨by omega, by omega⟩, (fun _ => by simp), HB0⟩
      case round =>
        clear HB0
        obtain ⟨x, k, rfl, rfl, hk, hg, ⟨hx1, hx2⟩, HX, HI⟩ := hrel
        have hBk := HI.out.2
        have hlt := hBk.lt
        have b3 := hBk.cell 3 _ rfl
        clear hBk
        by_cases hkl : k < n3
        · have hkz : (k : Int) < (n3 : Int) := by omega
          by_cases hx : x ≤ most
          · obtain ⟨s, hs, hsz, g, off, rfl, hg3, hc⟩ : ∃ s : ByteArray, ((((TrN.params t).take (k + 1)).map (fun x : ByteArray => x.size / 64)).sum : Nat) = ((((TrN.params t).take k).map (fun x : ByteArray => x.size / 64)).sum : Nat) + s.size / 64 ∧ s.size ≤ LB ∧ ∃ g off, o3 = some ⟨g, off, none⟩ ∧ g < w.heap.size ∧ w.cell? ⟨g, off + k, none⟩ = some (.string s) := by
              have hkp : k < (TrN.params t).length := by rw [HN.out.1]; exact hkl
              rcases HK3.out with h | ⟨g, off, e, hg, h⟩
              · rw [h] at hkp; cases hkp
              · exact ⟨(TrN.params t)[k], take_sum _ _ _ hkp, HS3.out _ (List.getElem_mem hkp), g, off, e, hg, h k hkp⟩
            have HT : Hid (((((TrN.params t).take (k + 1)).map (fun x : ByteArray => x.size / 64)).sum : Nat) = ((((TrN.params t).take k).map (fun x : ByteArray => x.size / 64)).sum : Nat) + s.size / 64) := hs
            have hcw := (HI.out.1.cell (p := ⟨g, off + k, none⟩) hg3).trans hc
            have hgw := Nat.lt_of_lt_of_le hg3 HI.out.1.size
            unfold LB at hsz
            have hszz : (s.size : Int) ≤ 140737488355328 := by omega
            clear hs hc
            go_wp2
            go_roundg (n3 - (k + 1))
            case measure => omega
            case rel =>
              refine ⟨_, k + 1, rfl, by go_num, by omega, Nat.le_refl _, ⟨by omega, by omega⟩, ?_, HI⟩
              intro h9
              have h1 := HX.out hx
              have h2 := HT.out
              omega
          · go_wp2
            go_meet
            exact ⟨x, rfl, ⟨hx1, hx2⟩, (fun h => by omega), HI⟩
        · have hkz : ¬ (k : Int) < (n3 : Int) := by omega
          have HX2 : Hid (x ≤ most → ((1 + n3 + nm.size / 64 + ((((TrN.params t)).map (fun x : ByteArray => x.size / 64)).sum : Nat) : Nat) : Int) = x) := by
            have e : (TrN.params t).take k = TrN.params t := List.take_of_length_le (by rw [HN.out.1]; omega)
            have h1 := HX.out
            rw [e] at h1
            exact h1
          go_wp2
          go_meet
          exact ⟨x, rfl, ⟨hx1, hx2⟩, HX2, HI⟩
    case rest =>
    obtain ⟨x3, rfl, ⟨hx31, hx32⟩, HX3, HI3⟩ := hcut
    clear HB0 HK3 HS3
    go_upto_block 2 with fail
    go_cut [7, 9] from 47 to 80 (fun s7 s9 wx => ∃ x : Int, s7 = .int .i64 x ∧ (1 ≤ x ∧ x ≤ U + 600000000000000) ∧ Hid (x ≤ most → ((1 + n3 + nm.size / 64 + ((((TrN.params t)).map (fun x : ByteArray => x.size / 64)).sum : Nat) + ((((TrN.binds t)).map (fun b : ByteArray × Tr d => 1 + b.1.size / 64 + cntM d b.2)).sum : Nat) : Nat) : Int) = x ∧ ∀ b ∈ TrN.binds t, depLe d b.2 D) ∧ Hid (Below w.heap.size w wx ∧ Blk wx w.heap.size #[.int .i64 kd, .string nm, .int .i64 nu, .slice o3 n3 c3, .slice o4 n4 c4, .slice o5 n5 c5, .slice o6 n6 c6] 29))
    case first =>
      go_wp2_with fail
      go_loopg [7, 9] n4 (fun g s7 s8 wr => ∃ (x : Int) (k : Nat), s7 = .int .i64 x ∧ s8 = .int .i64 k ∧ k ≤ n4 ∧ n4 - k ≤ g ∧ (1 ≤ x ∧ x ≤ U + 600000000000000) ∧ Hid (x ≤ most → ((1 + n3 + nm.size / 64 + ((((TrN.params t)).map (fun x : ByteArray => x.size / 64)).sum : Nat) + ((((TrN.binds t).take k).map (fun b : ByteArray × Tr d => 1 + b.1.size / 64 + cntM d b.2)).sum : Nat) : Nat) : Int) = x ∧ ∀ j (h : j < (TrN.binds t).length), j < k → depLe d (TrN.binds t)[j].2 D) ∧ Hid (Below w.heap.size w wr ∧ Blk wr w.heap.size #[.int .i64 kd, .string nm, .int .i64 nu, .slice o3 n3 c3, .slice o4 n4 c4, .slice o5 n5 c5, .slice o6 n6 c6] 29))
      case atStart => exact ⟨_, 0, rfl, rfl, Nat.zero_le _, Nat.le_refl _, ⟨by omega, by omega⟩, (fun h => ⟨by have := HX3.out h; simpa using this, fun j h h2 => absurd h2 (Nat.not_lt_zero _)⟩), HI3⟩
      case round =>
        clear HI3 HX3 hx31 hx32
        obtain ⟨x, k, rfl, rfl, hk, hg, ⟨hx1, hx2⟩, HX, HI⟩ := hrel
        have hBk := HI.out.2
        have hlt := hBk.lt
        have b3 := hBk.cell 4 _ rfl
        clear hBk
        by_cases hkl : k < n4
        · have hkz : (k : Int) < (n4 : Int) := by omega
          by_cases hx : x ≤ most
          · obtain ⟨b, hkp, hb, g, off, rfl, hg3, hc, hE⟩ : ∃ (b : ByteArray × Tr d) (hkp : k < (TrN.binds t).length), (TrN.binds t)[k] = b ∧ ∃ g off, o4 = some ⟨g, off, none⟩ ∧ g < w.heap.size ∧ w.cell? ⟨g, off + k * 8, none⟩ = some (.string b.1) ∧ ExAt w w.heap.size d b.2 g (off + k * 8 + 1) := by
              have hkp : k < (TrN.binds t).length := by rw [HN.out.2.1]; exact hkl
              rcases HK4.out with h | ⟨g, off, e, hg, h⟩
              · rw [h] at hkp; cases hkp
              · exact ⟨(TrN.binds t)[k], hkp, rfl, g, off, e, hg, (h k hkp).1, (h k hkp).2⟩
            have HT : Hid (((((TrN.binds t).take (k + 1)).map (fun b : ByteArray × Tr d => 1 + b.1.size / 64 + cntM d b.2)).sum : Nat) = ((((TrN.binds t).take k).map (fun b : ByteArray × Tr d => 1 + b.1.size / 64 + cntM d b.2)).sum : Nat) + (1 + b.1.size / 64 + cntM d b.2) ∧ ∃ hkp : k < (TrN.binds t).length, (TrN.binds t)[k] = b) := by
              have h9 := take_sum (fun b : ByteArray × Tr d => 1 + b.1.size / 64 + cntM d b.2) _ _ hkp
              rw [hb] at h9
              exact ⟨h9, hkp, hb⟩
            have hsb := HS4.out b (by rw [← hb]; exact List.getElem_mem hkp)
            have hcw := (HI.out.1.cell (p := ⟨g, off + k * 8, none⟩) hg3).trans hc
            have hgw := Nat.lt_of_lt_of_le hg3 HI.out.1.size
            obtain ⟨kd', nm', nu', p3, q3, r3, p4, q4, r4, p5, q5, r5, p6, q6, r6, e0, e1, e2, e3, e4, e5, e6, hv⟩ := (hE.below HI.out.1).get HI.out.1.size
            have HC : Hid (∀ W, Below wr.heap.size wr W → Calls Tryd.prog 23 #[.agg #[.int .i64 kd', .string nm', .int .i64 nu', .slice p3 q3 r3, .slice p4 q4 r4, .slice p5 q5 r5, .slice p6 q6 r6], .int .i64 most, .int .i64 (dd - 1)] W fun r W' => ∃ y : Int, r = .returned (.int .i64 y) ∧ (1 ≤ y ∧ y ≤ U) ∧ (y ≤ most → depLe d b.2 D ∧ (cntM d b.2 : Int) = y) ∧ Below W.heap.size W W') := fun W hW => HIH.out d b.2 _ W (hv.below hW) hsb.2
            obtain ⟨bn, hbn⟩ : ∃ bn, b.1 = bn := ⟨_, rfl⟩
            have HBN : Hid (b.1 = bn) := hbn
            have hsz := hsb.1
            rw [hbn] at hcw hsz
            unfold LB at hsz
            have hszz : (bn.size : Int) ≤ 140737488355328 := by omega
            have hw0 : IntKind.i64.wrap ((bn.size : Int) / 64) = (bn.size : Int) / 64 := by rw [IntKind.wrap_i64]; omega
            have hw1 : IntKind.i64.wrap (x + 1) = x + 1 := by rw [IntKind.wrap_i64]; omega
            have hw2 : IntKind.i64.wrap (x + 1 + (bn.size : Int) / 64) = x + 1 + (bn.size : Int) / 64 := by rw [IntKind.wrap_i64]; omega
            have hw3 : ∀ y : Int, 1 ≤ y → y ≤ U → IntKind.i64.wrap (x + 1 + (bn.size : Int) / 64 + y) = x + 1 + (bn.size : Int) / 64 + y := by intro y _ _; rw [IntKind.wrap_i64]; omega
            have HW3 : Hid (∀ y : Int, 1 ≤ y → y ≤ U → IntKind.i64.wrap (x + 1 + (bn.size : Int) / 64 + y) = x + 1 + (bn.size : Int) / 64 + y) := hw3
            clear hw3 hb hc hE hv hsb hbn
            have HKP : Hid (∀ X, Hid (Below wr.heap.size wr X) → Hid (Below wr.heap.size wr X) ∧ X.cell? ⟨w.heap.size, 4, none⟩ = some (.slice (some ⟨g, off, none⟩) n4 c4) ∧ X.cell? ⟨g, off + k * 8, none⟩ = some (.string bn) ∧ X.cell? ⟨g, off + k * 8 + 1, none⟩ = some (.int .i64 kd') ∧ X.cell? ⟨g, off + k * 8 + 1 + 1, none⟩ = some (.string nm') ∧ X.cell? ⟨g, off + k * 8 + 1 + 2, none⟩ = some (.int .i64 nu') ∧ X.cell? ⟨g, off + k * 8 + 1 + 3, none⟩ = some (.slice p3 q3 r3) ∧ X.cell? ⟨g, off + k * 8 + 1 + 4, none⟩ = some (.slice p4 q4 r4) ∧ X.cell? ⟨g, off + k * 8 + 1 + 5, none⟩ = some (.slice p5 q5 r5) ∧ X.cell? ⟨g, off + k * 8 + 1 + 6, none⟩ = some (.slice p6 q6 r6)) := fun X h => by
              have hc := fun (g' o' : Nat) (hg : g' < wr.heap.size) => h.out.cell (p := ⟨g', o', none⟩) hg
              exact ⟨h, (hc _ _ hlt).trans b3, (hc _ _ hgw).trans hcw, (hc _ _ hgw).trans e0, (hc _ _ hgw).trans e1, (hc _ _ hgw).trans e2, (hc _ _ hgw).trans e3, (hc _ _ hgw).trans e4, (hc _ _ hgw).trans e5, (hc _ _ hgw).trans e6⟩
            have hS0 : Hid (Below wr.heap.size wr wr.drew) := (Below.refl _ _).drew
            clear e0 e1 e2 e3 e4 e5 e6 hcw
            go_upto_region 11 with fail
            clear b3
            go_region_held3 (fun X : World => Hid (Below wr.heap.size wr X) ∧ X.cell? ⟨w.heap.size, 4, none⟩ = some (.slice (some ⟨g, off, none⟩) n4 c4) ∧ X.cell? ⟨g, off + k * 8, none⟩ = some (.string bn) ∧ X.cell? ⟨g, off + k * 8 + 1, none⟩ = some (.int .i64 kd') ∧ X.cell? ⟨g, off + k * 8 + 1 + 1, none⟩ = some (.string nm') ∧ X.cell? ⟨g, off + k * 8 + 1 + 2, none⟩ = some (.int .i64 nu') ∧ X.cell? ⟨g, off + k * 8 + 1 + 3, none⟩ = some (.slice p3 q3 r3) ∧ X.cell? ⟨g, off + k * 8 + 1 + 4, none⟩ = some (.slice p4 q4 r4) ∧ X.cell? ⟨g, off + k * 8 + 1 + 5, none⟩ = some (.slice p5 q5 r5) ∧ X.cell? ⟨g, off + k * 8 + 1 + 6, none⟩ = some (.slice p6 q6 r6))
              (first
                | with_reducible exact HKP.out _ hSa
                | with_reducible exact HKP.out _ hS0)
              (first
                | (go_at_call 23; refine (HC.out _ (Hid.out (And.left (by with_reducible assumption)))).mono ?_; rintro r xa ⟨y, rfl, ⟨hy1, hy2⟩, hy3, hb⟩; have hSa : Hid (Below wr.heap.size wr xa) := up2n (And.left (by with_reducible assumption)) hb; have HY : Hid (y ≤ most → depLe d b.2 D ∧ (cntM d b.2 : Int) = y) := hy3; have hwy := HW3.out y hy1 hy2; clear hy3 hb))
            go_wp2
            go_roundg (n4 - (k + 1))
            case measure => omega
            case rel =>
              refine ⟨_, k + 1, rfl, by go_num, by omega, Nat.le_refl _, ⟨by omega, by omega⟩, ?_, ⟨HI.out.1.trans (hSa.out.mono HI.out.1.size), HI.out.2.below hSa.out⟩⟩
              intro h9
              have h1 := HX.out hx
              obtain ⟨h2, hkp, hkb⟩ := HT.out
              have h3 := HY.out (by omega)
              refine ⟨by rw [HBN.out] at h2; omega, fun j hj hjk => ?_⟩
              by_cases e : j = k
              · subst e; rw [hkb]; exact h3.1
              · exact h1.2 j hj (by omega)
          · go_wp2
            go_meet
            exact ⟨x, rfl, ⟨hx1, hx2⟩, (fun h => by omega), HI⟩
        · have hkz : ¬ (k : Int) < (n4 : Int) := by omega
          have HX2 : Hid (x ≤ most → ((1 + n3 + nm.size / 64 + ((((TrN.params t)).map (fun x : ByteArray => x.size / 64)).sum : Nat) + ((((TrN.binds t)).map (fun b : ByteArray × Tr d => 1 + b.1.size / 64 + cntM d b.2)).sum : Nat) : Nat) : Int) = x ∧ ∀ b ∈ TrN.binds t, depLe d b.2 D) := by
            have e : (TrN.binds t).take k = TrN.binds t := List.take_of_length_le (by rw [HN.out.2.1]; omega)
            have h1 := HX.out
            rw [e] at h1
            refine fun h => ⟨(h1 h).1, fun b hb => ?_⟩
            obtain ⟨j, hj, rfl⟩ := List.getElem_of_mem hb
            exact (h1 h).2 j hj (by have := HN.out.2.1; omega)
          go_wp2
          go_meet
          exact ⟨x, rfl, ⟨hx1, hx2⟩, HX2, HI⟩
    case rest =>
    obtain ⟨x4, rfl, ⟨hx41, hx42⟩, HX4, HI4⟩ := hcut
    clear HI3 HX3 hx31 hx32 HK4 HS4
    go_upto_block 4 with fail
    go_cut [7, 10] from 81 to 103 (fun s7 s10 wx => ∃ x : Int, s7 = .int .i64 x ∧ (1 ≤ x ∧ x ≤ U + 600000000000000) ∧ Hid (x ≤ most → ((1 + n3 + nm.size / 64 + ((((TrN.params t)).map (fun x : ByteArray => x.size / 64)).sum : Nat) + ((((TrN.binds t)).map (fun b : ByteArray × Tr d => 1 + b.1.size / 64 + cntM d b.2)).sum : Nat) + ((((TrN.args t)).map (cntM d)).sum : Nat) : Nat) : Int) = x ∧ (∀ b ∈ TrN.binds t, depLe d b.2 D) ∧ ∀ e ∈ TrN.args t, depLe d e D) ∧ Hid (Below w.heap.size w wx ∧ Blk wx w.heap.size #[.int .i64 kd, .string nm, .int .i64 nu, .slice o3 n3 c3, .slice o4 n4 c4, .slice o5 n5 c5, .slice o6 n6 c6] 29))
    case first =>
      go_wp2_with fail
      go_loopg [7, 10] n5 (fun g s7 s8 wr => ∃ (x : Int) (k : Nat), s7 = .int .i64 x ∧ s8 = .int .i64 k ∧ k ≤ n5 ∧ n5 - k ≤ g ∧ (1 ≤ x ∧ x ≤ U + 600000000000000) ∧ Hid (x ≤ most → ((1 + n3 + nm.size / 64 + ((((TrN.params t)).map (fun x : ByteArray => x.size / 64)).sum : Nat) + ((((TrN.binds t)).map (fun b : ByteArray × Tr d => 1 + b.1.size / 64 + cntM d b.2)).sum : Nat) + ((((TrN.args t).take k).map (cntM d)).sum : Nat) : Nat) : Int) = x ∧ (∀ b ∈ TrN.binds t, depLe d b.2 D) ∧ ∀ j (h : j < (TrN.args t).length), j < k → depLe d (TrN.args t)[j] D) ∧ Hid (Below w.heap.size w wr ∧ Blk wr w.heap.size #[.int .i64 kd, .string nm, .int .i64 nu, .slice o3 n3 c3, .slice o4 n4 c4, .slice o5 n5 c5, .slice o6 n6 c6] 29))
      case atStart => exact ⟨_, 0, rfl, rfl, Nat.zero_le _, Nat.le_refl _, ⟨by omega, by omega⟩, (fun h => ⟨by have := (HX4.out h).1; simpa using this, (HX4.out h).2, fun j h h2 => absurd h2 (Nat.not_lt_zero _)⟩), HI4⟩
      case round =>
        clear HI4 HX4 hx41 hx42
        obtain ⟨x, k, rfl, rfl, hk, hg, ⟨hx1, hx2⟩, HX, HI⟩ := hrel
        have hBk := HI.out.2
        have hlt := hBk.lt
        have b3 := hBk.cell 5 _ rfl
        clear hBk
        by_cases hkl : k < n5
        · have hkz : (k : Int) < (n5 : Int) := by omega
          by_cases hx : x ≤ most
          · obtain ⟨b, hkp, hb, g, off, rfl, hg3, hE⟩ : ∃ (b : Tr d) (hkp : k < (TrN.args t).length), (TrN.args t)[k] = b ∧ ∃ g off, o5 = some ⟨g, off, none⟩ ∧ g < w.heap.size ∧ ExAt w w.heap.size d b g (off + k * 7) := by
              have hkp : k < (TrN.args t).length := by rw [HN.out.2.2.1]; exact hkl
              rcases HK5.out with h | ⟨g, off, e, hg, h⟩
              · rw [h] at hkp; cases hkp
              · exact ⟨(TrN.args t)[k], hkp, rfl, g, off, e, hg, h k hkp⟩
            have HT : Hid (((((TrN.args t).take (k + 1)).map (cntM d)).sum : Nat) = ((((TrN.args t).take k).map (cntM d)).sum : Nat) + cntM d b ∧ ∃ hkp : k < (TrN.args t).length, (TrN.args t)[k] = b) := by
              have h9 := take_sum (cntM d) _ _ hkp
              rw [hb] at h9
              exact ⟨h9, hkp, hb⟩
            have hsb := HS5.out b (by rw [← hb]; exact List.getElem_mem hkp)
            have hgw := Nat.lt_of_lt_of_le hg3 HI.out.1.size
            obtain ⟨kd', nm', nu', p3, q3, r3, p4, q4, r4, p5, q5, r5, p6, q6, r6, e0, e1, e2, e3, e4, e5, e6, hv⟩ := (hE.below HI.out.1).get HI.out.1.size
            have HC : Hid (Calls Tryd.prog 23 #[.agg #[.int .i64 kd', .string nm', .int .i64 nu', .slice p3 q3 r3, .slice p4 q4 r4, .slice p5 q5 r5, .slice p6 q6 r6], .int .i64 most, .int .i64 (dd - 1)] wr fun r W' => ∃ y : Int, r = .returned (.int .i64 y) ∧ (1 ≤ y ∧ y ≤ U) ∧ (y ≤ most → depLe d b D ∧ (cntM d b : Int) = y) ∧ Below wr.heap.size wr W') := HIH.out d b _ wr hv hsb
            clear hb hE hv hsb
            go_wp2_with (go_at_call 23; fail)
            refine HC.out.mono ?_
            rintro r xa ⟨y, rfl, ⟨hy1, hy2⟩, hy3, hb⟩
            have HY : Hid (y ≤ most → depLe d b D ∧ (cntM d b : Int) = y) := hy3
            have HF : Hid (Below w.heap.size w xa ∧ Blk xa w.heap.size #[.int .i64 kd, .string nm, .int .i64 nu, .slice o3 n3 c3, .slice o4 n4 c4, .slice (some ⟨g, off, none⟩) n5 c5, .slice o6 n6 c6] 29) := ⟨HI.out.1.trans (hb.mono HI.out.1.size), HI.out.2.below hb⟩
            clear hy3 hb HC e0 e1 e2 e3 e4 e5 e6 b3
            go_wp2
            go_roundg (n5 - (k + 1))
            case measure => omega
            case rel =>
              refine ⟨_, k + 1, rfl, by go_num, by omega, Nat.le_refl _, ⟨by omega, by omega⟩, ?_, HF⟩
              intro h9
              have h1 := HX.out hx
              obtain ⟨h2, hkp, hkb⟩ := HT.out
              have h3 := HY.out (by omega)
              refine ⟨by omega, h1.2.1, fun j hj hjk => ?_⟩
              by_cases e : j = k
              · subst e; rw [hkb]; exact h3.1
              · exact h1.2.2 j hj (by omega)
          · go_wp2
            go_meet
            exact ⟨x, rfl, ⟨hx1, hx2⟩, (fun h => by omega), HI⟩
        · have hkz : ¬ (k : Int) < (n5 : Int) := by omega
          have HX2 : Hid (x ≤ most → ((1 + n3 + nm.size / 64 + ((((TrN.params t)).map (fun x : ByteArray => x.size / 64)).sum : Nat) + ((((TrN.binds t)).map (fun b : ByteArray × Tr d => 1 + b.1.size / 64 + cntM d b.2)).sum : Nat) + ((((TrN.args t)).map (cntM d)).sum : Nat) : Nat) : Int) = x ∧ (∀ b ∈ TrN.binds t, depLe d b.2 D) ∧ ∀ e ∈ TrN.args t, depLe d e D) := by
            have e : (TrN.args t).take k = TrN.args t := List.take_of_length_le (by rw [HN.out.2.2.1]; omega)
            have h1 := HX.out
            rw [e] at h1
            refine fun h => ⟨(h1 h).1, (h1 h).2.1, fun b hb => ?_⟩
            obtain ⟨j, hj, rfl⟩ := List.getElem_of_mem hb
            exact (h1 h).2.2 j hj (by have := HN.out.2.2.1; omega)
          go_wp2
          go_meet
          exact ⟨x, rfl, ⟨hx1, hx2⟩, HX2, HI⟩
    case rest =>
    obtain ⟨x5, rfl, ⟨hx51, hx52⟩, HX5, HI5⟩ := hcut
    clear HI4 HX4 hx41 hx42 HK5 HS5
    go_wp2
    go_loopg [7, 11, 12] n6 (fun g s7 s8 s12 wr => ∃ (x : Int) (k : Nat), s7 = .int .i64 x ∧ s8 = .int .i64 k ∧ k ≤ n6 ∧ n6 - k ≤ g ∧ (1 ≤ x ∧ x ≤ U + 600000000000000) ∧ Hid (x ≤ most → ((1 + n3 + nm.size / 64 + ((((TrN.params t)).map (fun x : ByteArray => x.size / 64)).sum : Nat) + ((((TrN.binds t)).map (fun b : ByteArray × Tr d => 1 + b.1.size / 64 + cntM d b.2)).sum : Nat) + ((((TrN.args t)).map (cntM d)).sum : Nat) + ((((TrN.alts t).take k).map (fun a : AltH × Tr d => a.1.vars.length + a.1.name.size / 64 + cntM d a.2 + (a.1.vars.map (fun x : ByteArray => x.size / 64)).sum)).sum : Nat) : Nat) : Int) = x ∧ (∀ b ∈ TrN.binds t, depLe d b.2 D) ∧ (∀ e ∈ TrN.args t, depLe d e D) ∧ ∀ j (h : j < (TrN.alts t).length), j < k → depLe d (TrN.alts t)[j].2 D) ∧ Hid (Below w.heap.size w wr ∧ Blk wr w.heap.size #[.int .i64 kd, .string nm, .int .i64 nu, .slice o3 n3 c3, .slice o4 n4 c4, .slice o5 n5 c5, .slice o6 n6 c6] 29))
    case atStart => exact ⟨_, 0, rfl, rfl, Nat.zero_le _, Nat.le_refl _, ⟨by omega, by omega⟩, (fun h => ⟨by have := (HX5.out h).1; simpa using this, (HX5.out h).2.1, (HX5.out h).2.2, fun j h h2 => absurd h2 (Nat.not_lt_zero _)⟩), HI5⟩
    case round =>
      clear HI5 HX5 hx51 hx52
      obtain ⟨x, k, rfl, rfl, hk, hg, ⟨hx1, hx2⟩, HX, HI⟩ := hrel
      have hBk := HI.out.2
      have hlt := hBk.lt
      have b3 := hBk.cell 6 _ rfl
      clear hBk
      by_cases hkl : k < n6
      · have hkz : (k : Int) < (n6 : Int) := by omega
        by_cases hx : x ≤ most
        · obtain ⟨b, hkp, hb, g, off, rfl, hg3, c0, c1, c2, ⟨vo, vc, c3', hV⟩, hE⟩ : ∃ (b : AltH × Tr d) (hkp : k < (TrN.alts t).length), (TrN.alts t)[k] = b ∧ ∃ g off, o6 = some ⟨g, off, none⟩ ∧ g < w.heap.size ∧ w.cell? ⟨g, off + k * 11, none⟩ = some (.int .i64 b.1.kind) ∧ w.cell? ⟨g, off + k * 11 + 1, none⟩ = some (.string b.1.name) ∧ w.cell? ⟨g, off + k * 11 + 2, none⟩ = some (.int .i64 b.1.num) ∧ (∃ o c, w.cell? ⟨g, off + k * 11 + 3, none⟩ = some (.slice o b.1.vars.length c) ∧ TxIn w w.heap.size o b.1.vars) ∧ ExAt w w.heap.size d b.2 g (off + k * 11 + 4) := by
            have hkp : k < (TrN.alts t).length := by rw [HN.out.2.2.2.1]; exact hkl
            rcases HK6.out with h | ⟨g, off, e, hg, h⟩
            · rw [h] at hkp; cases hkp
            · exact ⟨(TrN.alts t)[k], hkp, rfl, g, off, e, hg, h k hkp⟩
          have HT : Hid (((((TrN.alts t).take (k + 1)).map (fun a : AltH × Tr d => a.1.vars.length + a.1.name.size / 64 + cntM d a.2 + (a.1.vars.map (fun x : ByteArray => x.size / 64)).sum)).sum : Nat) = ((((TrN.alts t).take k).map (fun a : AltH × Tr d => a.1.vars.length + a.1.name.size / 64 + cntM d a.2 + (a.1.vars.map (fun x : ByteArray => x.size / 64)).sum)).sum : Nat) + (b.1.vars.length + b.1.name.size / 64 + cntM d b.2 + (b.1.vars.map (fun x : ByteArray => x.size / 64)).sum) ∧ ∃ hkp : k < (TrN.alts t).length, (TrN.alts t)[k] = b) := by
            have h9 := take_sum (fun a : AltH × Tr d => a.1.vars.length + a.1.name.size / 64 + cntM d a.2 + (a.1.vars.map (fun x : ByteArray => x.size / 64)).sum) _ _ hkp
            rw [hb] at h9
            exact ⟨h9, hkp, hb⟩
          obtain ⟨-, hsz, -, ⟨hvl, hvs⟩, hwf⟩ := HS6.out b (by rw [← hb]; exact List.getElem_mem hkp)
          have HV : Hid (TxIn w w.heap.size vo b.1.vars ∧ ∀ x ∈ b.1.vars, x.size ≤ LB) := ⟨hV, hvs⟩
          have hcw := (HI.out.1.cell (p := ⟨g, off + k * 11 + 1, none⟩) hg3).trans c1
          have hcv := (HI.out.1.cell (p := ⟨g, off + k * 11 + 3, none⟩) hg3).trans c3'
          have hgw := Nat.lt_of_lt_of_le hg3 HI.out.1.size
          obtain ⟨kd', nm', nu', p3, q3, r3, p4, q4, r4, p5, q5, r5, p6, q6, r6, e0, e1, e2, e3, e4, e5, e6, hv⟩ := (hE.below HI.out.1).get HI.out.1.size
          have HC : Hid (∀ W, Below wr.heap.size wr W → Calls Tryd.prog 23 #[.agg #[.int .i64 kd', .string nm', .int .i64 nu', .slice p3 q3 r3, .slice p4 q4 r4, .slice p5 q5 r5, .slice p6 q6 r6], .int .i64 most, .int .i64 (dd - 1)] W fun r W' => ∃ y : Int, r = .returned (.int .i64 y) ∧ (1 ≤ y ∧ y ≤ U) ∧ (y ≤ most → depLe d b.2 D ∧ (cntM d b.2 : Int) = y) ∧ Below W.heap.size W W') := fun W hW => HIH.out d b.2 _ W (hv.below hW) hwf
          obtain ⟨bn, hbn⟩ : ∃ bn, b.1.name = bn := ⟨_, rfl⟩
          obtain ⟨vn, hvn⟩ : ∃ vn, b.1.vars.length = vn := ⟨_, rfl⟩
          have HBN : Hid (b.1.name = bn ∧ b.1.vars.length = vn) := ⟨hbn, hvn⟩
          rw [hbn] at hcw hsz
          rw [hvn] at hcv hvl
          unfold LB at hsz hvl
          have hszz : (bn.size : Int) ≤ 140737488355328 := by omega
          have hvlz : (vn : Int) ≤ 140737488355328 := by omega
          have hw0 : IntKind.i64.wrap ((bn.size : Int) / 64) = (bn.size : Int) / 64 := by rw [IntKind.wrap_i64]; omega
          have hw1 : IntKind.i64.wrap (x + (vn : Int)) = x + (vn : Int) := by rw [IntKind.wrap_i64]; omega
          have hw2 : IntKind.i64.wrap (x + (vn : Int) + (bn.size : Int) / 64) = x + (vn : Int) + (bn.size : Int) / 64 := by rw [IntKind.wrap_i64]; omega
          have HW3 : Hid (∀ y : Int, 1 ≤ y → y ≤ U → IntKind.i64.wrap (x + (vn : Int) + (bn.size : Int) / 64 + y) = x + (vn : Int) + (bn.size : Int) / 64 + y) := by intro y _ _; rw [IntKind.wrap_i64]; omega
          have HKP : Hid (∀ X, Hid (Below wr.heap.size wr X) → Hid (Below wr.heap.size wr X) ∧ X.cell? ⟨w.heap.size, 6, none⟩ = some (.slice (some ⟨g, off, none⟩) n6 c6) ∧ X.cell? ⟨g, off + k * 11 + 3, none⟩ = some (.slice vo vn vc) ∧ X.cell? ⟨g, off + k * 11 + 1, none⟩ = some (.string bn) ∧ X.cell? ⟨g, off + k * 11 + 4, none⟩ = some (.int .i64 kd') ∧ X.cell? ⟨g, off + k * 11 + 4 + 1, none⟩ = some (.string nm') ∧ X.cell? ⟨g, off + k * 11 + 4 + 2, none⟩ = some (.int .i64 nu') ∧ X.cell? ⟨g, off + k * 11 + 4 + 3, none⟩ = some (.slice p3 q3 r3) ∧ X.cell? ⟨g, off + k * 11 + 4 + 4, none⟩ = some (.slice p4 q4 r4) ∧ X.cell? ⟨g, off + k * 11 + 4 + 5, none⟩ = some (.slice p5 q5 r5) ∧ X.cell? ⟨g, off + k * 11 + 4 + 6, none⟩ = some (.slice p6 q6 r6)) := fun X h => by
            have hc := fun (g' o' : Nat) (hg : g' < wr.heap.size) => h.out.cell (p := ⟨g', o', none⟩) hg
            exact ⟨h, (hc _ _ hlt).trans b3, (hc _ _ hgw).trans hcv, (hc _ _ hgw).trans hcw, (hc _ _ hgw).trans e0, (hc _ _ hgw).trans e1, (hc _ _ hgw).trans e2, (hc _ _ hgw).trans e3, (hc _ _ hgw).trans e4, (hc _ _ hgw).trans e5, (hc _ _ hgw).trans e6⟩
          have hS0 : Hid (Below wr.heap.size wr wr.drew) := (Below.refl _ _).drew
          have HCV : Hid (wr.cell? ⟨g, off + k * 11 + 3, none⟩ = some (.slice vo vn vc)) := hcv
          clear hb hE hv hbn hvn hwf hV hvs c0 c1 c2 c3' e0 e1 e2 e3 e4 e5 e6 hcw hcv
          go_upto_region 19 with fail
          clear b3
          go_region_held3 (fun X : World => Hid (Below wr.heap.size wr X) ∧ X.cell? ⟨w.heap.size, 6, none⟩ = some (.slice (some ⟨g, off, none⟩) n6 c6) ∧ X.cell? ⟨g, off + k * 11 + 3, none⟩ = some (.slice vo vn vc) ∧ X.cell? ⟨g, off + k * 11 + 1, none⟩ = some (.string bn) ∧ X.cell? ⟨g, off + k * 11 + 4, none⟩ = some (.int .i64 kd') ∧ X.cell? ⟨g, off + k * 11 + 4 + 1, none⟩ = some (.string nm') ∧ X.cell? ⟨g, off + k * 11 + 4 + 2, none⟩ = some (.int .i64 nu') ∧ X.cell? ⟨g, off + k * 11 + 4 + 3, none⟩ = some (.slice p3 q3 r3) ∧ X.cell? ⟨g, off + k * 11 + 4 + 4, none⟩ = some (.slice p4 q4 r4) ∧ X.cell? ⟨g, off + k * 11 + 4 + 5, none⟩ = some (.slice p5 q5 r5) ∧ X.cell? ⟨g, off + k * 11 + 4 + 6, none⟩ = some (.slice p6 q6 r6))
            (first
              | with_reducible exact HKP.out _ hSa
              | with_reducible exact HKP.out _ hS0)
            (first
              | (go_at_call 23; refine (HC.out _ (Hid.out (And.left (by with_reducible assumption)))).mono ?_; rintro r xa ⟨y, rfl, ⟨hy1, hy2⟩, hy3, hb⟩; have hSa : Hid (Below wr.heap.size wr xa) := up2n (And.left (by with_reducible assumption)) hb; have HY : Hid (y ≤ most → depLe d b.2 D ∧ (cntM d b.2 : Int) = y) := hy3; have hwy := HW3.out y hy1 hy2; clear hy3 hb))
          have HF : Hid (Below w.heap.size w xa ∧ Blk xa w.heap.size #[.int .i64 kd, .string nm, .int .i64 nu, .slice o3 n3 c3, .slice o4 n4 c4, .slice o5 n5 c5, .slice (some ⟨g, off, none⟩) n6 c6] 29) := ⟨HI.out.1.trans (hSa.out.mono HI.out.1.size), HI.out.2.below hSa.out⟩
          have hcv : xa.cell? ⟨g, off + k * 11 + 3, none⟩ = some (.slice vo vn vc) := (hSa.out.cell (p := ⟨g, off + k * 11 + 3, none⟩) hgw).trans HCV.out
          have hgx : g < xa.heap.size := Nat.lt_of_lt_of_le hgw hSa.out.size
          have b6 := HF.out.2.cell 6 _ rfl
          have hlx := HF.out.2.lt
          have HQ : Hid (∀ X, Below xa.heap.size xa X → X.cell? ⟨w.heap.size, 6, none⟩ = some (.slice (some ⟨g, off, none⟩) n6 c6) ∧ X.cell? ⟨g, off + k * 11 + 3, none⟩ = some (.slice vo vn vc) ∧ g < X.heap.size ∧ w.heap.size < X.heap.size) := fun X h => ⟨(h.cell (p := ⟨w.heap.size, 6, none⟩) hlx).trans b6, (h.cell (p := ⟨g, off + k * 11 + 3, none⟩) hgx).trans hcv, Nat.lt_of_lt_of_le hgx h.size, Nat.lt_of_lt_of_le hlx h.size⟩
          have hxx : Hid (Below xa.heap.size xa xa) := Below.refl _ _
          obtain ⟨cy, hcy⟩ : ∃ cy : Nat, cy = 1 + n3 + nm.size / 64 + ((((TrN.params t)).map (fun x : ByteArray => x.size / 64)).sum : Nat) + ((((TrN.binds t)).map (fun b : ByteArray × Tr d => 1 + b.1.size / 64 + cntM d b.2)).sum : Nat) + ((((TrN.args t)).map (cntM d)).sum : Nat) + ((((TrN.alts t).take k).map (fun a : AltH × Tr d => a.1.vars.length + a.1.name.size / 64 + cntM d a.2 + (a.1.vars.map (fun x : ByteArray => x.size / 64)).sum)).sum : Nat) + (vn + bn.size / 64 + cntM d b.2) := ⟨_, rfl⟩
          have HCY : Hid (cy = 1 + n3 + nm.size / 64 + ((((TrN.params t)).map (fun x : ByteArray => x.size / 64)).sum : Nat) + ((((TrN.binds t)).map (fun b : ByteArray × Tr d => 1 + b.1.size / 64 + cntM d b.2)).sum : Nat) + ((((TrN.args t)).map (cntM d)).sum : Nat) + ((((TrN.alts t).take k).map (fun a : AltH × Tr d => a.1.vars.length + a.1.name.size / 64 + cntM d a.2 + (a.1.vars.map (fun x : ByteArray => x.size / 64)).sum)).sum : Nat) + (vn + bn.size / 64 + cntM d b.2)) := hcy
          have HXY : Hid (x + (vn : Int) + (bn.size : Int) / 64 + y ≤ most → (cy : Int) = x + (vn : Int) + (bn.size : Int) / 64 + y ∧ depLe d b.2 D ∧ x ≤ most) := fun h => by
            have h1 := HX.out (by omega)
            have h3 := HY.out (by omega)
            refine ⟨by omega, h3.1, by omega⟩
          have hz1 : 1 ≤ x + (vn : Int) + (bn.size : Int) / 64 + y := by omega
          have hz2 : x + (vn : Int) + (bn.size : Int) / 64 + y ≤ U + 600000000000000 := by omega
          clear HC HKP hS0 hSa HCV HI hlt hgw hgx hlx hcv b6 hcy hw0 hw1 hw2 HW3 HY
          clear hwy
          generalize x + (vn : Int) + (bn.size : Int) / 64 + y = z at HXY hz1 hz2 ⊢
          go_wp2
          go_loopg [7, 12] vn (fun g7 s7 s12 wj => ∃ (xj : Int) (j : Nat), s7 = .int .i64 xj ∧ s12 = .int .i64 j ∧ j ≤ vn ∧ vn - j ≤ g7 ∧ (1 ≤ xj ∧ xj ≤ U + 600000000000000) ∧ Hid (xj ≤ most → ((cy + (((b.1.vars.take j).map (fun x : ByteArray => x.size / 64)).sum : Nat) : Nat) : Int) = xj ∧ depLe d b.2 D ∧ x ≤ most) ∧ Hid (Below xa.heap.size xa wj))
          case atStart => exact ⟨_, 0, rfl, rfl, Nat.zero_le _, Nat.le_refl _, ⟨hz1, hz2⟩, (fun h => by have := HXY.out h; simpa using this), hxx⟩
          case round =>
            clear hz1 hz2 HXY hxx
            obtain ⟨xj, j, rfl, rfl, hj, hgj, ⟨hj1, hj2⟩, HJ, HB⟩ := hrel
            obtain ⟨q1, q2, q3', q4'⟩ := HQ.out _ HB.out
            by_cases hjl : j < vn
            · have hjz : (j : Int) < (vn : Int) := by omega
              by_cases hxj : xj ≤ most
              · obtain ⟨s, hs, hsz, gv, ov, rfl, hgv, hc⟩ : ∃ s : ByteArray, (((b.1.vars.take (j + 1)).map (fun x : ByteArray => x.size / 64)).sum : Nat) = ((b.1.vars.take j).map (fun x : ByteArray => x.size / 64)).sum + s.size / 64 ∧ s.size ≤ LB ∧ ∃ g off, vo = some ⟨g, off, none⟩ ∧ g < w.heap.size ∧ w.cell? ⟨g, off + j, none⟩ = some (.string s) := by
                  have hjp : j < b.1.vars.length := by rw [HBN.out.2]; exact hjl
                  rcases HV.out.1 with h | ⟨g, off, e, hg, h⟩
                  · rw [h] at hjp; cases hjp
                  · exact ⟨b.1.vars[j], take_sum _ _ _ hjp, HV.out.2 _ (List.getElem_mem hjp), g, off, e, hg, h j hjp⟩
                have HTS : Hid ((((b.1.vars.take (j + 1)).map (fun x : ByteArray => x.size / 64)).sum : Nat) = ((b.1.vars.take j).map (fun x : ByteArray => x.size / 64)).sum + s.size / 64) := hs
                have hbw : Below w.heap.size w wr := HF.out.1.trans (HB.out.mono HF.out.1.size)
                have hcw := (hbw.cell (p := ⟨gv, ov + j, none⟩) hgv).trans hc
                have hgvw := Nat.lt_of_lt_of_le hgv hbw.size
                unfold LB at hsz
                have hszz : (s.size : Int) ≤ 140737488355328 := by omega
                clear hs hc hbw
                go_wp2
                go_roundg (vn - (j + 1))
                case measure => omega
                case rel =>
                  refine ⟨_, j + 1, rfl, by go_num, by omega, Nat.le_refl _, ⟨by omega, by omega⟩, ?_, HB⟩
                  intro h9
                  have h1 := HJ.out hxj
                  have h2 := HTS.out
                  refine ⟨by omega, h1.2⟩
              · have HE : Hid (¬ xj ≤ most) := hxj
                go_wp2
                go_roundg (n6 - (k + 1))
                case measure => omega
                case rel =>
                  refine ⟨_, k + 1, rfl, by go_num, by omega, Nat.le_refl _, ⟨by omega, by omega⟩, (fun h => by have := HE.out; omega), ⟨HF.out.1.trans (HB.out.mono HF.out.1.size), HF.out.2.below HB.out⟩⟩
            · have hjz : ¬ (j : Int) < (vn : Int) := by omega
              have HJ2 : Hid (xj ≤ most → (((1 + n3 + nm.size / 64 + ((((TrN.params t)).map (fun x : ByteArray => x.size / 64)).sum : Nat) + ((((TrN.binds t)).map (fun b : ByteArray × Tr d => 1 + b.1.size / 64 + cntM d b.2)).sum : Nat) + ((((TrN.args t)).map (cntM d)).sum : Nat) + ((((TrN.alts t).take (k + 1)).map (fun a : AltH × Tr d => a.1.vars.length + a.1.name.size / 64 + cntM d a.2 + (a.1.vars.map (fun x : ByteArray => x.size / 64)).sum)).sum : Nat) : Nat) : Int) = xj ∧ (∀ b ∈ TrN.binds t, depLe d b.2 D) ∧ (∀ e ∈ TrN.args t, depLe d e D) ∧ ∀ j (h : j < (TrN.alts t).length), j < (k + 1) → depLe d (TrN.alts t)[j].2 D)) := by
                intro h
                have e : b.1.vars.take j = b.1.vars := List.take_of_length_le (by rw [HBN.out.2]; omega)
                have h1 := HJ.out h
                rw [e] at h1
                have h0 := HX.out h1.2.2
                obtain ⟨h2, hkp, hkb⟩ := HT.out
                rw [HBN.out.1, HBN.out.2] at h2
                have h3 := HCY.out
                refine ⟨by rw [h2]; omega, h0.2.1, h0.2.2.1, fun i hi hik => ?_⟩
                by_cases e : i = k
                · subst e; rw [hkb]; exact h1.2.1
                · exact h0.2.2.2 i hi (by omega)
              go_wp2
              go_roundg (n6 - (k + 1))
              case measure => omega
              case rel => exact ⟨_, k + 1, rfl, by go_num, by omega, Nat.le_refl _, ⟨hj1, hj2⟩, HJ2, ⟨HF.out.1.trans (HB.out.mono HF.out.1.size), HF.out.2.below HB.out⟩⟩
        · go_wp2
          go_ret
          exact HR.out _ _ hx1 hx2 (fun h => by omega) HI.out.1
      · have hkz : ¬ (k : Int) < (n6 : Int) := by omega
        have HX2 : Hid (x ≤ most → depLe (d + 1) t (D + 1) ∧ (cntM (d + 1) t : Int) = x) := by
          have e : (TrN.alts t).take k = TrN.alts t := List.take_of_length_le (by rw [HN.out.2.2.2.1]; omega)
          have h1 := HX.out
          rw [e] at h1
          refine fun h => ⟨⟨(h1 h).2.1, (h1 h).2.2.1, fun b hb => ?_⟩, ?_⟩
          · obtain ⟨j, hj, rfl⟩ := List.getElem_of_mem hb
            exact (h1 h).2.2.2 j hj (by have := HN.out.2.2.2.1; omega)
          · rw [← (h1 h).1]
            show ((1 + (TrN.params t).length + (TrN.name t).size / 64 + _ + _ + _ + _ : Nat) : Int) = _
            rw [HN.out.1, HN.out.2.2.2.2]
        go_wp2
        go_ret
        exact HR.out _ _ hx1 hx2 HX2.out HI.out.1
end Go.Proofs.YtjmpjfggbhongaaDoor
