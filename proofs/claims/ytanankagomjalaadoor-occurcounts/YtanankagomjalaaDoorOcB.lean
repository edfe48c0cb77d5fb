/-
  Occurrences, counts and free names as mathematics (stage 16): how they go together.
-/
import Derived.Test.YtanankagomjalaaDoorP10
import Derived.Test.YtanankagomjalaaDoorOcA
namespace Go.Proofs.YtanankagomjalaaDoor
open Go.RowKit Go.Shelf Go.Maps
set_option linter.unusedVariables false

/-- How an occurrence, a count and being free go together. -/
def Goes (o n : Nat) (f : Bool) : Prop := (o = 1 ∧ n = 0 ∧ f = false) ∨ ((o = 2 ∨ o = 4) ∧ n = 1 ∧ f = true) ∨ ((o = 3 ∨ o = 5) ∧ 2 ≤ n ∧ f = true)
theorem Goes.both {a b n m : Nat} {f g : Bool} (h : Goes a n f) (k : Goes b m g) : Goes (bothM a b) (n + m) (f || g) := by
  rcases h with ⟨rfl, rfl, rfl⟩ | ⟨h | h, rfl, rfl⟩ | ⟨h | h, hn, rfl⟩ <;> rcases k with ⟨rfl, rfl, rfl⟩ | ⟨k | k, rfl, rfl⟩ | ⟨k | k, hm, rfl⟩ <;> (try subst h) <;> (try subst k) <;> simp [bothM, Goes] <;> omega
theorem Goes.either {a b n m : Nat} {f g : Bool} (h : Goes a n f) (k : Goes b m g) : Goes (eitherM a b) (n + m) (f || g) := by
  rcases h with ⟨rfl, rfl, rfl⟩ | ⟨h | h, rfl, rfl⟩ | ⟨h | h, hn, rfl⟩ <;> rcases k with ⟨rfl, rfl, rfl⟩ | ⟨k | k, rfl, rfl⟩ | ⟨k | k, hm, rfl⟩ <;> (try subst h) <;> (try subst k) <;> simp [eitherM, bothM, Goes] <;> omega
theorem Goes.within {a n : Nat} {f : Bool} (h : Goes a n f) : Goes (withinM a) n f := by
  rcases h with ⟨rfl, rfl, rfl⟩ | ⟨h | h, rfl, rfl⟩ | ⟨h | h, hn, rfl⟩ <;> (try subst h) <;> simp [withinM, Goes] <;> omega
theorem Goes.dead : Goes 1 0 false := .inl ⟨rfl, rfl, rfl⟩
theorem goes_fold {α : Type} (op : Nat → Nat → Nat) (hop : ∀ {a b n m f g}, Goes a n f → Goes b m g → Goes (op a b) (n + m) (f || g)) (f : α → Nat) (c : α → Nat) (q : α → Bool) :
    ∀ (l : List α) (o n : Nat) (b : Bool), (∀ x ∈ l, Goes (f x) (c x) (q x)) → Goes o n b → Goes (l.foldl (fun o x => op o (f x)) o) (n + (l.map c).sum) (b || l.any q)
  | [], o, n, b, _, h => by simpa using h
  | x :: l, o, n, b, hl, h => by
    have := goes_fold op hop f c q l (op o (f x)) (n + c x) (b || q x) (fun y hy => hl y (List.mem_cons_of_mem _ hy)) (hop h (hl x List.mem_cons_self))
    simpa [Nat.add_assoc, Bool.or_assoc] using this
theorem goes_alts {α : Type} (p : α → Bool) (f : α → Nat) (c : α → Nat) (q : α → Bool) :
    ∀ (l : List α) (o n : Nat) (b : Bool), (∀ x ∈ l, Goes (f x) (c x) (q x)) → Goes o n b → Goes (l.foldl (fun o x => if p x then o else eitherM o (f x)) o) (n + (l.map (fun x => if p x then 0 else c x)).sum) (b || l.any (fun x => q x && !p x))
  | [], o, n, b, _, h => by simpa using h
  | x :: l, o, n, b, hl, h => by
    by_cases hp : p x = true
    · have := goes_alts p f c q l o n b (fun y hy => hl y (List.mem_cons_of_mem _ hy)) h
      simpa [hp] using this
    · have := goes_alts p f c q l (eitherM o (f x)) (n + c x) (b || q x) (fun y hy => hl y (List.mem_cons_of_mem _ hy)) (h.either (hl x List.mem_cons_self))
      simpa [hp, Nat.add_assoc, Bool.or_assoc] using this
/-- Dead: nowhere; once: at one place; what is free is not dead. -/
theorem goes_of : ∀ (d : Nat) (t : Tr d) (x : List UInt8), Goes (ofM d t x) (cntN d t x) (freeM d t [] x)
  | 0, t, _ => nomatch t
  | d + 1, t, x => by
    have hc : ∀ {ns : List (List UInt8)}, freeM (d + 1) t [] x = (!hidM t x && (isV t x || (TrN.binds t).any (fun b => freeM d b.2 [] x) || (TrN.args t).any (fun e => freeM d e [] x) || (TrN.alts t).any (fun a => freeM d a.2 [] x && !(dl a.1.vars).contains x))) := by
      intro _
      show ((TrN.kind t == 1) && (!(dl (bndM t).reverse ++ []).contains (TrN.name t).data.toList) && (x == (TrN.name t).data.toList) || (TrN.binds t).any (fun b => freeM d b.2 (dl (bndM t).reverse ++ []) x) || (TrN.args t).any (fun e => freeM d e (dl (bndM t).reverse ++ []) x) || (TrN.alts t).any (fun a => freeM d a.2 (dl a.1.vars.reverse ++ (dl (bndM t).reverse ++ [])) x)) = _
      have hrev : ∀ (l : List ByteArray) (y : List UInt8), (dl l.reverse).contains y = (dl l).contains y := by
        intro l y; unfold dl; simp [List.map_reverse]
      have e1 : ∀ (e : Tr d), freeM d e (dl (bndM t).reverse ++ []) x = (freeM d e [] x && !hidM t x) := by
        intro e; rw [freeM_nil, List.append_nil, hrev]; rfl
      have e2 : ∀ (a : AltH × Tr d), freeM d a.2 (dl a.1.vars.reverse ++ (dl (bndM t).reverse ++ [])) x = ((freeM d a.2 [] x && !(dl a.1.vars).contains x) && !hidM t x) := by
        intro a; rw [freeM_nil, List.append_nil]
        have : (dl a.1.vars.reverse ++ dl (bndM t).reverse).contains x = ((dl a.1.vars).contains x || hidM t x) := by
          rw [← hrev a.1.vars, hidM, ← hrev (bndM t)]; simp
        rw [this]; cases freeM d a.2 [] x <;> cases (dl a.1.vars).contains x <;> cases hidM t x <;> rfl
      simp only [e1, e2]
      have e0 : ((TrN.kind t == 1) && (!(dl (bndM t).reverse ++ []).contains (TrN.name t).data.toList) && (x == (TrN.name t).data.toList)) = (isV t x && !hidM t x) := by
        rw [List.append_nil, hrev]; unfold isV hidM
        by_cases hx : x = (TrN.name t).data.toList
        · rw [hx]; cases (TrN.kind t == 1) <;> simp
        · have : (x == (TrN.name t).data.toList) = false := by simpa using hx
          rw [this]; simp
      rw [e0]
      have ha : ∀ {α : Type} (l : List α) (p : α → Bool) (h : Bool), l.any (fun y => p y && !h) = (l.any p && !h) := by
        intro α l p h; cases h <;> simp
      rw [ha (TrN.binds t) (fun b => freeM d b.2 [] x), ha (TrN.args t) (fun e => freeM d e [] x), ha (TrN.alts t) (fun a => freeM d a.2 [] x && !(dl a.1.vars).contains x)]
      cases hidM t x <;> simp
    rw [@hc []]
    unfold ofM cntN
    by_cases hh : hidM t x = true
    · simp only [hh, if_true, Bool.not_true, Bool.false_and]; exact .dead
    · have hf : hidM t x = false := by simpa using hh
      simp only [hf, Bool.not_false, Bool.true_and, Bool.false_eq_true, if_false]
      have g0 : Goes (if isV t x then 2 else 1) (if isV t x then 1 else 0) (isV t x) := by
        cases isV t x <;> simp [Goes]
      have g1 := goes_fold bothM Goes.both (fun (b : ByteArray × Tr d) => ofM d b.2 x) (fun b => cntN d b.2 x) (fun b => freeM d b.2 [] x) (TrN.binds t) _ _ _ (fun b _ => goes_of d b.2 x) g0
      have g2 := goes_fold bothM Goes.both (fun (e : Tr d) => ofM d e x) (fun e => cntN d e x) (fun e => freeM d e [] x) (TrN.args t) _ _ _ (fun e _ => goes_of d e x) g1
      have g3 := goes_alts (fun (a : AltH × Tr d) => (dl a.1.vars).contains x) (fun a => ofM d a.2 x) (fun a => cntN d a.2 x) (fun a => freeM d a.2 [] x) (TrN.alts t) 1 0 false (fun a _ => goes_of d a.2 x) Goes.dead
      have g4 := g2.both g3
      rw [Nat.zero_add, Bool.false_or] at g4
      have g5 : Goes (inN (fun e => ofM d e x) t x) _ _ := g4
      by_cases hk : TrN.kind t = 5
      · simp only [hk, if_true]; exact g5.within
      · simp only [hk, if_false]; exact g5
end Go.Proofs.YtanankagomjalaaDoor
