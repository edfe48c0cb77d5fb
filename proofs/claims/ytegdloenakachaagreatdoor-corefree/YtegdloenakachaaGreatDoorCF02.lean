/-
  What is free behind a substitution, as mathematics.
  The free names of an expression as a list; two rising lists put together; an expression is the same as itself.
  For core.CheckExpr: the names of a program's one binding as a row of one's own; names put behind it; what a variable may have.
  The kit's countExprs: how many expressions and names there are, by a contract.
-/
import Derived.Test.YtegdloenakachaaGreatDoorCF01
import Derived.Test.YtegdloenakachaaGreatDoorCN23
import Derived.Sort.KeysCollected
import Derived.Test.YtegdloenakachaaGreatDoorCN31
import Derived.Laws.OwnMore
import Derived.Deep.LoopGhost
import Derived.Deep.RegionHeld3
import Derived.Deep.CutBlock
import Derived.Deep.CutRange
namespace Go.Proofs.YtegdloenakachaaGreatDoor
open Go.RowKit Go.Shelf Go.Maps
set_option linter.unusedVariables false

theorem any_and {α : Type} (l : List α) (f : α → Bool) (c : Bool) : l.any (fun x => f x && c) = (l.any f && c) := by
  induction l with
  | nil => simp
  | cons x l ih => rw [List.any_cons, List.any_cons, ih]; cases f x <;> cases c <;> simp
theorem any_congr' {α : Type} {l : List α} {f g : α → Bool} (h : ∀ x ∈ l, f x = g x) : l.any f = l.any g := by
  induction l with
  | nil => rfl
  | cons x l ih => rw [List.any_cons, List.any_cons, h x List.mem_cons_self, ih (fun y hy => h y (List.mem_cons_of_mem _ hy))]
theorem con_app (a b : List (List UInt8)) (x : List UInt8) : (a ++ b).contains x = (a.contains x || b.contains x) := by
  rw [Bool.eq_iff_iff]; simp
/-- What is free under more names. -/
theorem freeM_app : ∀ (d : Nat) (t : Tr d) (ms ns : List (List UInt8)) (x : List UInt8), freeM d t (ms ++ ns) x = (freeM d t ms x && !ns.contains x)
  | 0, t, _, _, _ => nomatch t
  | d + 1, t, ms, ns, x => by
    have e1 : ((TrN.binds t).any fun b => freeM d b.2 (dl (bndM t).reverse ++ (ms ++ ns)) x) = (((TrN.binds t).any fun b => freeM d b.2 (dl (bndM t).reverse ++ ms) x) && !ns.contains x) := by
      rw [← any_and]; exact any_congr' (fun b _ => by rw [← List.append_assoc]; exact freeM_app d _ _ _ _)
    have e2 : ((TrN.args t).any fun e => freeM d e (dl (bndM t).reverse ++ (ms ++ ns)) x) = (((TrN.args t).any fun e => freeM d e (dl (bndM t).reverse ++ ms) x) && !ns.contains x) := by
      rw [← any_and]; exact any_congr' (fun b _ => by rw [← List.append_assoc]; exact freeM_app d _ _ _ _)
    have e3 : ((TrN.alts t).any fun a => freeM d a.2 (dl a.1.vars.reverse ++ (dl (bndM t).reverse ++ (ms ++ ns))) x) = (((TrN.alts t).any fun a => freeM d a.2 (dl a.1.vars.reverse ++ (dl (bndM t).reverse ++ ms)) x) && !ns.contains x) := by
      rw [← any_and]; exact any_congr' (fun b _ => by rw [← List.append_assoc (dl (bndM t).reverse), ← List.append_assoc]; exact freeM_app d _ _ _ _)
    have e0 : ((TrN.kind t == 1) && (!(dl (bndM t).reverse ++ (ms ++ ns)).contains (TrN.name t).data.toList) && (x == (TrN.name t).data.toList)) = (((TrN.kind t == 1) && (!(dl (bndM t).reverse ++ ms).contains (TrN.name t).data.toList) && (x == (TrN.name t).data.toList)) && !ns.contains x) := by
      rw [← List.append_assoc, con_app _ ns]
      by_cases hx : x = (TrN.name t).data.toList
      · subst hx
        cases (TrN.kind t == 1) <;> cases (dl (bndM t).reverse ++ ms).contains (TrN.name t).data.toList <;> cases ns.contains (TrN.name t).data.toList <;> simp
      · have : (x == (TrN.name t).data.toList) = false := by simpa using hx
        rw [this]; simp
    show (((TrN.kind t == 1) && _ && _) || _ || _ || _) = ((((TrN.kind t == 1) && _ && _) || _ || _ || _) && _)
    rw [e0, e1, e2, e3]
    generalize ((TrN.kind t == 1) && (!(dl (bndM t).reverse ++ ms).contains (TrN.name t).data.toList) && (x == (TrN.name t).data.toList)) = p0
    generalize ((TrN.binds t).any fun b => freeM d b.2 (dl (bndM t).reverse ++ ms) x) = p1
    generalize ((TrN.args t).any fun e => freeM d e (dl (bndM t).reverse ++ ms) x) = p2
    generalize ((TrN.alts t).any fun a => freeM d a.2 (dl a.1.vars.reverse ++ (dl (bndM t).reverse ++ ms)) x) = p3
    cases p0 <;> cases p1 <;> cases p2 <;> cases p3 <;> cases ns.contains x <;> rfl
theorem freeM_nil (d : Nat) (t : Tr d) (ns : List (List UInt8)) (x : List UInt8) : freeM d t ns x = (freeM d t [] x && !ns.contains x) := freeM_app d t [] ns x
theorem bnd_lift1 {d : Nat} (t : Tr (d + 1)) : bndM (lift1 (d + 1) t) = bndM t := by
  show (TrN.params t ++ ((TrN.binds t).map (fun b => (b.1, lift1 d b.2))).map Prod.fst) = _
  rw [List.map_map]; rfl
theorem freeM_lift1 : ∀ (d : Nat) (t : Tr d) (ns : List (List UInt8)) (x : List UInt8), freeM (d + 1) (lift1 d t) ns x = freeM d t ns x
  | 0, t, _, _ => nomatch t
  | d + 1, t, ns, x => by
    have e1 : ((TrN.binds t).map (fun b => (b.1, lift1 d b.2))).any (fun b => freeM (d + 1) b.2 (dl (bndM t).reverse ++ ns) x) = (TrN.binds t).any fun b => freeM d b.2 (dl (bndM t).reverse ++ ns) x := by
      rw [List.any_map]; exact any_congr' (fun b _ => freeM_lift1 d _ _ _)
    have e2 : ((TrN.args t).map (lift1 d)).any (fun e => freeM (d + 1) e (dl (bndM t).reverse ++ ns) x) = (TrN.args t).any fun e => freeM d e (dl (bndM t).reverse ++ ns) x := by
      rw [List.any_map]; exact any_congr' (fun b _ => freeM_lift1 d _ _ _)
    have e3 : ((TrN.alts t).map (fun a => (a.1, lift1 d a.2))).any (fun a => freeM (d + 1) a.2 (dl a.1.vars.reverse ++ (dl (bndM t).reverse ++ ns)) x) = (TrN.alts t).any fun a => freeM d a.2 (dl a.1.vars.reverse ++ (dl (bndM t).reverse ++ ns)) x := by
      rw [List.any_map]; exact any_congr' (fun b _ => freeM_lift1 d _ _ _)
    show (((TrN.kind t == 1) && (!(dl (bndM (lift1 (d + 1) t)).reverse ++ ns).contains (TrN.name t).data.toList) && (x == (TrN.name t).data.toList)) || ((TrN.binds t).map (fun b => (b.1, lift1 d b.2))).any (fun b => freeM (d + 1) b.2 (dl (bndM (lift1 (d + 1) t)).reverse ++ ns) x) || ((TrN.args t).map (lift1 d)).any (fun e => freeM (d + 1) e (dl (bndM (lift1 (d + 1) t)).reverse ++ ns) x) || ((TrN.alts t).map (fun a => (a.1, lift1 d a.2))).any (fun a => freeM (d + 1) a.2 (dl a.1.vars.reverse ++ (dl (bndM (lift1 (d + 1) t)).reverse ++ ns)) x)) = _
    rw [bnd_lift1, e1, e2, e3]
    rfl
theorem freeM_liftN {d : Nat} (t : Tr d) (ns : List (List UInt8)) (x : List UInt8) : ∀ k, freeM (d + k) (liftN t k) ns x = freeM d t ns x
  | 0 => rfl
  | k + 1 => (freeM_lift1 (d + k) _ ns x).trans (freeM_liftN t ns x k)
/-- A variable has nothing but its name. -/
def VarOK : (d : Nat) → Tr d → Prop
  | 0, t => nomatch t
  | d + 1, t => (TrN.kind t = 1 → TrN.params t = [] ∧ TrN.binds t = [] ∧ TrN.args t = [] ∧ TrN.alts t = []) ∧ (∀ b ∈ TrN.binds t, VarOK d b.2) ∧ (∀ e ∈ TrN.args t, VarOK d e) ∧ ∀ a ∈ TrN.alts t, VarOK d a.2
theorem All2.cons {α β : Type} {R : α → β → Prop} {a : α} {l : List α} {b : β} {l' : List β} (h : All2 R (a :: l) (b :: l')) : R a b ∧ All2 R l l' :=
  ⟨h.2 0 (by simp) (by simp), by have := h.1; simpa using this, fun k h1 h2 => by have := h.2 (k + 1) (by simp; omega) (by simp; omega); simpa using this⟩
theorem All2.anyE {α β : Type} {R : α → β → Prop} {f : β → Bool} {g k : α → Bool} {c e : Bool} : ∀ {l : List α} {l' : List β}, All2 R l l' → (∀ a ∈ l, ∀ b, R a b → f b = ((g a && c) || (k a && e))) → l'.any f = ((l.any g && c) || (l.any k && e))
  | [], l', h, _ => by
    have : l' = [] := List.length_eq_zero_iff.1 h.1
    subst this; simp
  | a :: l, [], h, _ => by have := h.1; simp at this
  | a :: l, b :: l', h, hf => by
    obtain ⟨h1, h2⟩ := All2.cons h
    rw [List.any_cons, List.any_cons, List.any_cons, hf a List.mem_cons_self b h1, All2.anyE h2 (fun x hx => hf x (List.mem_cons_of_mem _ hx))]
    generalize g a = p1
    generalize k a = p2
    generalize l.any g = p3
    generalize l.any k = p4
    cases p1 <;> cases p2 <;> cases p3 <;> cases p4 <;> cases c <;> cases e <;> rfl
theorem All2.mapE {α β γ : Type} {R : α → β → Prop} {f : β → γ} {g : α → γ} : ∀ {l : List α} {l' : List β}, All2 R l l' → (∀ a ∈ l, ∀ b, R a b → f b = g a) → l'.map f = l.map g
  | [], l', h, _ => by
    have : l' = [] := List.length_eq_zero_iff.1 h.1
    subst this; rfl
  | a :: l, [], h, _ => by have := h.1; simp at this
  | a :: l, b :: l', h, hf => by
    obtain ⟨h1, h2⟩ := All2.cons h
    rw [List.map_cons, List.map_cons, hf a List.mem_cons_self b h1, All2.mapE h2 (fun x hx => hf x (List.mem_cons_of_mem _ hx))]
/-- A bound name's new name. -/
def renL (F : List UInt8 → Bool) (φ : List UInt8 → Nat) (x : List UInt8) : List UInt8 := if F x then nmL (φ x) else x
theorem rnB_ren (F : List UInt8 → Bool) (φ : List UInt8 → Nat) (x : ByteArray) : (rnB F φ x).data.toList = renL F φ x.data.toList := by
  unfold rnB renL nmL
  split <;> rfl
theorem dl_ren (F : List UInt8 → Bool) (φ : List UInt8 → Nat) (l : List ByteArray) : dl (l.map (rnB F φ)) = (dl l).map (renL F φ) := by
  unfold dl
  rw [List.map_map, List.map_map]
  exact map_congr' (fun x _ => rnB_ren F φ x)
/-- A name of the expression is in the new scope if it is in the old one under this name and is not called otherwise. -/
theorem ren_mem {F : List UInt8 → Bool} {L : List (List UInt8)} {φ : List UInt8 → Nat} {last : Nat} (hN : NumOK F L φ last) {ns : List (List UInt8)} (hns : ∀ z ∈ ns, F z = true → φ z ≠ 0) {y : List UInt8} (hy : y ∈ L) : (ns.map (renL F φ)).contains y = (ns.contains y && !F y) := by
  rw [Bool.eq_iff_iff]
  simp only [List.contains_iff_mem, List.mem_map, Bool.and_eq_true, Bool.not_eq_true']
  constructor
  · rintro ⟨z, hz, e⟩
    unfold renL at e
    split at e
    · rename_i hF
      exact absurd (by rw [← e] at hy; exact hy) (hN.new z (hns z hz hF))
    · rename_i hF
      subst e
      exact ⟨hz, by simpa using hF⟩
  · rintro ⟨h1, h2⟩
    exact ⟨y, h1, by unfold renL; rw [h2]; rfl⟩
theorem allOwn_sub {d : Nat} {t : Tr (d + 1)} {L : List (List UInt8)} (h : ∀ y ∈ allN ownN (d + 1) t, y ∈ L) : (∀ y ∈ ownN d t, y ∈ L) ∧ (∀ b ∈ TrN.binds t, ∀ y ∈ allN ownN d b.2, y ∈ L) ∧ (∀ e ∈ TrN.args t, ∀ y ∈ allN ownN d e, y ∈ L) ∧ ∀ a ∈ TrN.alts t, ∀ y ∈ allN ownN d a.2, y ∈ L := by
  have e : allN ownN (d + 1) t = ownN d t ++ ((TrN.binds t).flatMap (fun b => allN ownN d b.2) ++ ((TrN.args t).flatMap (fun e => allN ownN d e) ++ (TrN.alts t).flatMap (fun a => allN ownN d a.2))) := rfl
  rw [e] at h
  refine ⟨fun y hy => h y (List.mem_append.2 (.inl hy)), fun b hb y hy => h y (List.mem_append.2 (.inr (List.mem_append.2 (.inl (List.mem_flatMap.2 ⟨b, hb, hy⟩))))), fun b hb y hy => h y (List.mem_append.2 (.inr (List.mem_append.2 (.inr (List.mem_append.2 (.inl (List.mem_flatMap.2 ⟨b, hb, hy⟩))))))), fun b hb y hy => h y (List.mem_append.2 (.inr (List.mem_append.2 (.inr (List.mem_append.2 (.inr (List.mem_flatMap.2 ⟨b, hb, hy⟩)))))))⟩
theorem bnd_own {d : Nat} {t : Tr (d + 1)} {y : List UInt8} (h : y ∈ dl (bndM t)) : y ∈ ownN d t := by
  unfold bndM dl at h
  unfold ownN dl
  rw [List.map_append] at h
  rcases List.mem_append.1 h with h | h
  · exact List.mem_append.2 (.inr (List.mem_append.2 (.inl h)))
  · exact List.mem_append.2 (.inr (List.mem_append.2 (.inr (List.mem_append.2 (.inl h)))))
/-- WHAT IS FREE BEHIND A SUBSTITUTION: what was, without the name, and what came with it. -/
theorem free_sub {nm : ByteArray} {db : Nat} {b : Tr db} {L : List (List UInt8)} {φ : List UInt8 → Nat} {last : Nat} (hN : NumOK (freeM db b []) L φ last) (hF : ∀ y, freeM db b [] y = true → y ∈ L) :
    ∀ (d : Nat) (ns : List (List UInt8)) (t : Tr d) (t' : Tr (db + d)) (x : List UInt8), SubR nm (freeM db b []) db b φ d ns t t' → VarOK d t → (∀ y ∈ allN ownN d t, y ∈ L) → (∀ z ∈ ns, freeM db b [] z = true → φ z ≠ 0) →
      freeM (db + d) t' (ns.map (renL (freeM db b []) φ)) x = ((freeM d t ns x && (x != nm.data.toList)) || (freeM d t ns nm.data.toList && freeM db b [] x))
  | 0, _, t, _, _, _, _, _, _ => nomatch t
  | d + 1, ns, t, t', x, h, hV, hA, hns => by
    obtain ⟨a1, a2, a3, a4⟩ := allOwn_sub hA
    obtain ⟨v1, v2, v3, v4⟩ := hV
    rcases h with ⟨k1, k2, k3, k4⟩ | ⟨hno, k1, k2, k3, k4, k5, k6, k7, k8, k9⟩
    · obtain ⟨p1, p2, p3, p4⟩ := v1 k1
      have hb0 : bndM t = [] := by unfold bndM; rw [p1, p2]; rfl
      have k3' : (TrN.name t).data.toList = nm.data.toList := by rw [← ByteArray.toList_eq, ← ByteArray.toList_eq]; exact k3
      have hL : freeM (db + (d + 1)) t' (ns.map (renL (freeM db b []) φ)) x = freeM db b [] x := by
        rw [k4, freeM_liftN, freeM_nil]
        cases hx : freeM db b [] x with
        | false => rfl
        | true => rw [ren_mem hN hns (hF x hx), hx]; simp
      have hR : ∀ y, freeM (d + 1) t ns y = (y == nm.data.toList) := fun y => by
        show (((TrN.kind t == 1) && (!(dl (bndM t).reverse ++ ns).contains (TrN.name t).data.toList) && (y == (TrN.name t).data.toList)) || _ || _ || _) = _
        rw [k1, k2, p2, p3, p4, k3']; simp
      rw [hL, hR, hR]
      by_cases hx : x = nm.data.toList
      · subst hx; simp
      · have : (x == nm.data.toList) = false := by simpa using hx
        rw [this]; simp
    · have eB : bndM (show Tr (db + d + 1) from t') = (bndM t).map (rnB (freeM db b []) φ) := by
        unfold bndM
        rw [List.map_append, List.map_map]
        have : ((show TrN (Tr (db + d)) from t').binds.map Prod.fst) = (TrN.binds t).map (rnB (freeM db b []) φ ∘ Prod.fst) := All2.mapE k7 (fun p _ q hq => hq.1)
        rw [← this, ← k6]
      have eS : ∀ l : List (List UInt8), l = dl (bndM t).reverse ++ ns → dl (bndM (show Tr (db + d + 1) from t')).reverse ++ ns.map (renL (freeM db b []) φ) = l.map (renL (freeM db b []) φ) := fun l hl => by
        rw [hl, eB, List.map_append, ← List.map_reverse, dl_ren]
      have hns2 : ∀ z ∈ dl (bndM t).reverse ++ ns, freeM db b [] z = true → φ z ≠ 0 := fun z hz hf => by
        rcases List.mem_append.1 hz with hz | hz
        · unfold dl at hz
          obtain ⟨y, hy, rfl⟩ := List.mem_map.1 hz
          exact k5 y (List.mem_reverse.1 hy) hf
        · exact hns z hz hf
      have r1 := All2.anyE (f := fun q : ByteArray × Tr (db + d) => freeM (db + d) q.2 ((dl (bndM t).reverse ++ ns).map (renL (freeM db b []) φ)) x) (g := fun p : ByteArray × Tr d => freeM d p.2 (dl (bndM t).reverse ++ ns) x) (k := fun p : ByteArray × Tr d => freeM d p.2 (dl (bndM t).reverse ++ ns) nm.data.toList) (c := x != nm.data.toList) (e := freeM db b [] x) k7 (fun p hp q hq => free_sub hN hF d _ _ _ _ hq.2 (v2 p hp) (a2 p hp) hns2)
      have r2 := All2.anyE (f := fun q : Tr (db + d) => freeM (db + d) q ((dl (bndM t).reverse ++ ns).map (renL (freeM db b []) φ)) x) (g := fun p : Tr d => freeM d p (dl (bndM t).reverse ++ ns) x) (k := fun p : Tr d => freeM d p (dl (bndM t).reverse ++ ns) nm.data.toList) (c := x != nm.data.toList) (e := freeM db b [] x) k8 (fun p hp q hq => free_sub hN hF d _ _ _ _ hq (v3 p hp) (a3 p hp) hns2)
      have r3 := All2.anyE (f := fun q : AltH × Tr (db + d) => freeM (db + d) q.2 (dl q.1.vars.reverse ++ (dl (bndM t).reverse ++ ns).map (renL (freeM db b []) φ)) x) (g := fun p : AltH × Tr d => freeM d p.2 (dl p.1.vars.reverse ++ (dl (bndM t).reverse ++ ns)) x) (k := fun p : AltH × Tr d => freeM d p.2 (dl p.1.vars.reverse ++ (dl (bndM t).reverse ++ ns)) nm.data.toList) (c := x != nm.data.toList) (e := freeM db b [] x) k9 (fun p hp q hq => by
        obtain ⟨q1, q2, q3⟩ := hq
        have e4 : dl q.1.vars.reverse ++ (dl (bndM t).reverse ++ ns).map (renL (freeM db b []) φ) = (dl p.1.vars.reverse ++ (dl (bndM t).reverse ++ ns)).map (renL (freeM db b []) φ) := by
          rw [q2, List.map_append]
          show dl (p.1.vars.map (rnB (freeM db b []) φ)).reverse ++ _ = _
          rw [← List.map_reverse, dl_ren, List.map_append (l₁ := dl p.1.vars.reverse), List.map_append]
        show freeM (db + d) q.2 (dl q.1.vars.reverse ++ (dl (bndM t).reverse ++ ns).map (renL (freeM db b []) φ)) x = _
        rw [e4]
        refine free_sub hN hF d _ _ _ _ q3 (v4 p hp) (a4 p hp) (fun z hz hf => ?_)
        rcases List.mem_append.1 hz with hz | hz
        · unfold dl at hz
          obtain ⟨y, hy, rfl⟩ := List.mem_map.1 hz
          exact q1 y (List.mem_reverse.1 hy) hf
        · exact hns2 z hz hf)
      have hL : freeM (db + (d + 1)) t' (ns.map (renL (freeM db b []) φ)) x = (((TrN.kind t == 1) && (!((dl (bndM t).reverse ++ ns).map (renL (freeM db b []) φ)).contains (show TrN (Tr (db + d)) from t').name.data.toList) && (x == (show TrN (Tr (db + d)) from t').name.data.toList)) || (show TrN (Tr (db + d)) from t').binds.any (fun q : ByteArray × Tr (db + d) => freeM (db + d) q.2 ((dl (bndM t).reverse ++ ns).map (renL (freeM db b []) φ)) x) || (show TrN (Tr (db + d)) from t').args.any (fun q : Tr (db + d) => freeM (db + d) q ((dl (bndM t).reverse ++ ns).map (renL (freeM db b []) φ)) x) || (show TrN (Tr (db + d)) from t').alts.any (fun q : AltH × Tr (db + d) => freeM (db + d) q.2 (dl q.1.vars.reverse ++ (dl (bndM t).reverse ++ ns).map (renL (freeM db b []) φ)) x)) := by
        rw [← eS _ rfl, ← k1]; rfl
      have hR : ∀ y, freeM (d + 1) t ns y = (((TrN.kind t == 1) && (!(dl (bndM t).reverse ++ ns).contains (TrN.name t).data.toList) && (y == (TrN.name t).data.toList)) || (TrN.binds t).any (fun p : ByteArray × Tr d => freeM d p.2 (dl (bndM t).reverse ++ ns) y) || (TrN.args t).any (fun p : Tr d => freeM d p (dl (bndM t).reverse ++ ns) y) || (TrN.alts t).any (fun p : AltH × Tr d => freeM d p.2 (dl p.1.vars.reverse ++ (dl (bndM t).reverse ++ ns)) y)) := fun y => rfl
      rw [hL, hR, hR, r1, r2, r3]
      have h0 : ((TrN.kind t == 1) && (!((dl (bndM t).reverse ++ ns).map (renL (freeM db b []) φ)).contains (show TrN (Tr (db + d)) from t').name.data.toList) && (x == (show TrN (Tr (db + d)) from t').name.data.toList)) =
          ((((TrN.kind t == 1) && (!(dl (bndM t).reverse ++ ns).contains (TrN.name t).data.toList) && (x == (TrN.name t).data.toList)) && (x != nm.data.toList)) || (((TrN.kind t == 1) && (!(dl (bndM t).reverse ++ ns).contains (TrN.name t).data.toList) && (nm.data.toList == (TrN.name t).data.toList)) && freeM db b [] x)) := by
        by_cases hk : TrN.kind t = 1
        · have hown : (TrN.name t).data.toList ∈ L := a1 _ (by unfold ownN; rw [if_pos hk]; simp)
          by_cases hc : (dl (bndM t).reverse ++ ns).contains (TrN.name t).data.toList = true
          · rw [k3, if_pos ⟨hk, hc⟩, hc, rnB_ren]
            have : ((dl (bndM t).reverse ++ ns).map (renL (freeM db b []) φ)).contains (renL (freeM db b []) φ (TrN.name t).data.toList) = true := by
              rw [List.contains_iff_mem] at hc ⊢
              exact List.mem_map_of_mem hc
            rw [this]; simp
          · have hc2 : (dl (bndM t).reverse ++ ns).contains (TrN.name t).data.toList = false := by simpa using hc
            rw [k3, if_neg (fun h => hc h.2), ren_mem hN hns2 hown, hc2, hk]
            have hne : (TrN.name t).data.toList ≠ nm.data.toList := fun e => hno ⟨hk, hc2, by rw [ByteArray.toList_eq, ByteArray.toList_eq]; exact e⟩
            have hne2 : (nm.data.toList == (TrN.name t).data.toList) = false := by
              rw [beq_eq_false_iff_ne]; exact fun e => hne e.symm
            rw [hne2]
            by_cases hx : x = (TrN.name t).data.toList
            · subst hx
              have : ((TrN.name t).data.toList != nm.data.toList) = true := by rw [bne_iff_ne]; exact hne
              rw [this]; simp
            · have : (x == (TrN.name t).data.toList) = false := by rw [beq_eq_false_iff_ne]; exact hx
              rw [this]; simp
        · have : (TrN.kind t == 1) = false := by simpa using hk
          rw [this]; simp
      rw [h0]
      generalize ((TrN.kind t == 1) && (!(dl (bndM t).reverse ++ ns).contains (TrN.name t).data.toList) && (x == (TrN.name t).data.toList)) = p0
      generalize ((TrN.kind t == 1) && (!(dl (bndM t).reverse ++ ns).contains (TrN.name t).data.toList) && (nm.data.toList == (TrN.name t).data.toList)) = p1
      generalize (TrN.binds t).any (fun p : ByteArray × Tr d => freeM d p.2 (dl (bndM t).reverse ++ ns) x) = p2
      generalize (TrN.binds t).any (fun p : ByteArray × Tr d => freeM d p.2 (dl (bndM t).reverse ++ ns) nm.data.toList) = p3
      generalize (TrN.args t).any (fun p : Tr d => freeM d p (dl (bndM t).reverse ++ ns) x) = p4
      generalize (TrN.args t).any (fun p : Tr d => freeM d p (dl (bndM t).reverse ++ ns) nm.data.toList) = p5
      generalize (TrN.alts t).any (fun p : AltH × Tr d => freeM d p.2 (dl p.1.vars.reverse ++ (dl (bndM t).reverse ++ ns)) x) = p6
      generalize (TrN.alts t).any (fun p : AltH × Tr d => freeM d p.2 (dl p.1.vars.reverse ++ (dl (bndM t).reverse ++ ns)) nm.data.toList) = p7
      generalize (x != nm.data.toList) = c1
      generalize freeM db b [] x = c2
      clear r1 r2 r3 h0 hL hR
      cases p0 <;> cases p1 <;> cases p2 <;> cases p3 <;> cases p4 <;> cases p5 <;> cases p6 <;> cases p7 <;> cases c1 <;> cases c2 <;> rfl
end Go.Proofs.YtegdloenakachaaGreatDoor

namespace Go.Proofs.YtegdloenakachaaGreatDoor
open Go.RowKit Go.Shelf Go.Maps Go.Sort
set_option linter.unusedVariables false

theorem free_own : ∀ (d : Nat) (t : Tr d) (ns : List (List UInt8)) (x : List UInt8), freeM d t ns x = true → x ∈ allN ownN d t
  | 0, t, _, _, _ => nomatch t
  | d + 1, t, ns, x, h => by
    have e : allN ownN (d + 1) t = ownN d t ++ ((TrN.binds t).flatMap (fun b => allN ownN d b.2) ++ ((TrN.args t).flatMap (fun e => allN ownN d e) ++ (TrN.alts t).flatMap (fun a => allN ownN d a.2))) := rfl
    rw [e]
    have h' : (((TrN.kind t == 1) && (!(dl (bndM t).reverse ++ ns).contains (TrN.name t).data.toList) && (x == (TrN.name t).data.toList)) || (TrN.binds t).any (fun b => freeM d b.2 (dl (bndM t).reverse ++ ns) x) || (TrN.args t).any (fun e => freeM d e (dl (bndM t).reverse ++ ns) x) || (TrN.alts t).any (fun a => freeM d a.2 (dl a.1.vars.reverse ++ (dl (bndM t).reverse ++ ns)) x)) = true := h
    rw [Bool.or_eq_true, Bool.or_eq_true, Bool.or_eq_true] at h'
    rcases h' with ((h | h) | h) | h
    · rw [Bool.and_eq_true, Bool.and_eq_true] at h
      obtain ⟨⟨h1, h2⟩, h3⟩ := h
      refine List.mem_append.2 (.inl ?_)
      unfold ownN
      rw [if_pos (by simpa using h1), eq_of_beq h3]
      simp
    · obtain ⟨b, hb, h⟩ := List.any_eq_true.1 h
      exact List.mem_append.2 (.inr (List.mem_append.2 (.inl (List.mem_flatMap.2 ⟨b, hb, free_own d _ _ _ h⟩))))
    · obtain ⟨b, hb, h⟩ := List.any_eq_true.1 h
      exact List.mem_append.2 (.inr (List.mem_append.2 (.inr (List.mem_append.2 (.inl (List.mem_flatMap.2 ⟨b, hb, free_own d _ _ _ h⟩))))))
    · obtain ⟨b, hb, h⟩ := List.any_eq_true.1 h
      exact List.mem_append.2 (.inr (List.mem_append.2 (.inr (List.mem_append.2 (.inr (List.mem_flatMap.2 ⟨b, hb, free_own d _ _ _ h⟩))))))
/-- Each once. -/
def nub : List (List UInt8) → List (List UInt8)
  | [] => []
  | x :: l => if x ∈ l then nub l else x :: nub l
theorem nub_mem {x : List UInt8} : ∀ {l : List (List UInt8)}, x ∈ nub l ↔ x ∈ l
  | [] => Iff.rfl
  | y :: l => by
    unfold nub
    split
    · rename_i h
      rw [nub_mem, List.mem_cons]
      constructor
      · exact .inr
      · rintro (rfl | h2)
        · exact h
        · exact h2
    · rw [List.mem_cons, List.mem_cons, nub_mem]
theorem nub_nodup : ∀ l : List (List UInt8), (nub l).Nodup
  | [] => List.nodup_nil
  | y :: l => by
    unfold nub
    split
    · exact nub_nodup l
    · rename_i h
      exact List.nodup_cons.2 ⟨fun h2 => h (nub_mem.1 h2), nub_nodup l⟩
theorem nub_len : ∀ l : List (List UInt8), (nub l).length ≤ l.length
  | [] => Nat.le_refl _
  | y :: l => by
    unfold nub
    have := nub_len l
    split
    · rw [List.length_cons]; omega
    · rw [List.length_cons, List.length_cons]; omega
/-- The free names, each once. -/
def frL (d : Nat) (t : Tr d) : List (List UInt8) := (nub (allN ownN d t)).filter (fun x => freeM d t [] x)
theorem frL_nodup (d : Nat) (t : Tr d) : (frL d t).Nodup := (nub_nodup _).filter _
theorem frL_ok (d : Nat) (t : Tr d) (x : List UInt8) : freeM d t [] x = decide (x ∈ frL d t) := by
  rw [Bool.eq_iff_iff, decide_eq_true_iff]
  unfold frL
  rw [List.mem_filter, nub_mem]
  exact ⟨fun h => ⟨free_own d t [] x h, h⟩, fun h => h.2⟩
theorem frL_len (d : Nat) (t : Tr d) : (frL d t).length ≤ cntM d t := Nat.le_trans (List.length_filter_le _ _) (Nat.le_trans (nub_len _) (allOwn_len d t))
/-- Rising. -/
def Rising (l : List (List UInt8)) : Prop := l.Pairwise (· < ·)
theorem rising_sort {l : List (List UInt8)} (h : l.Nodup) : Rising (l.mergeSort leB) := by
  have tr : ∀ a b c : List UInt8, leB a b = true → leB b c = true → leB a c = true := fun a b c h1 h2 => by simp only [leB, decide_eq_true_eq] at *; exact List.le_trans h1 h2
  have tot : ∀ a b : List UInt8, (leB a b || leB b a) = true := fun a b => by simp only [leB, Bool.or_eq_true, decide_eq_true_eq]; exact List.le_total a b
  have h1 := List.pairwise_mergeSort tr tot l
  have h2 : (l.mergeSort leB).Nodup := ((List.mergeSort_perm l leB).nodup_iff).2 h
  exact (List.pairwise_and_iff.2 ⟨h1, h2⟩).imp (fun {a b} h => by
    have h3 : a ≤ b := by simpa [leB] using h.1
    exact Decidable.byContradiction (fun hn => h.2 (List.le_antisymm h3 (List.not_lt.1 hn))))
theorem rising_nodup {l : List (List UInt8)} (h : Rising l) : l.Nodup := h.imp (fun {a b} h e => by subst e; exact List.lt_irrefl _ h)
theorem rising_eq {l l' : List (List UInt8)} (h : Rising l) (h' : Rising l') (hm : ∀ x, x ∈ l ↔ x ∈ l') : l = l' := by
  have hp : l.Perm l' := (List.perm_ext_iff_of_nodup (rising_nodup h) (rising_nodup h')).2 hm
  exact List.Perm.eq_of_pairwise (le := fun a b => a < b) (fun a b _ _ h1 h2 => absurd (List.lt_trans h1 h2) (List.lt_irrefl _)) h h' hp
/-- Two rising lists as one. -/
def mergeM : List (List UInt8) → List (List UInt8) → List (List UInt8)
  | [], b => b
  | x :: a, [] => x :: a
  | x :: a, y :: b => if x < y then x :: mergeM a (y :: b) else if y < x then y :: mergeM (x :: a) b else x :: mergeM a b
termination_by a b => a.length + b.length
theorem mergeM_mem {z : List UInt8} : ∀ (a b : List (List UInt8)), z ∈ mergeM a b ↔ z ∈ a ∨ z ∈ b
  | [], b => by unfold mergeM; simp
  | x :: a, [] => by unfold mergeM; simp
  | x :: a, y :: b => by
    unfold mergeM
    split
    · rw [List.mem_cons, mergeM_mem a (y :: b), List.mem_cons, List.mem_cons]; simp only [or_assoc]
    · split
      · rw [List.mem_cons, mergeM_mem (x :: a) b, List.mem_cons, List.mem_cons]
        constructor
        · rintro (h | (h | h) | h)
          · exact .inr (.inl h)
          · exact .inl (.inl h)
          · exact .inl (.inr h)
          · exact .inr (.inr h)
        · rintro ((h | h) | (h | h))
          · exact .inr (.inl (.inl h))
          · exact .inr (.inl (.inr h))
          · exact .inl h
          · exact .inr (.inr h)
      · rename_i h1 h2
        have e : x = y := List.le_antisymm (List.not_lt.1 h2) (List.not_lt.1 h1)
        subst e
        rw [List.mem_cons, mergeM_mem a b, List.mem_cons, List.mem_cons]
        constructor
        · rintro (h | h | h)
          · exact .inl (.inl h)
          · exact .inl (.inr h)
          · exact .inr (.inr h)
        · rintro ((h | h) | (h | h))
          · exact .inl h
          · exact .inr (.inl h)
          · exact .inl h
          · exact .inr (.inr h)
termination_by a b => a.length + b.length
theorem mergeM_rising : ∀ (a b : List (List UInt8)), Rising a → Rising b → Rising (mergeM a b)
  | [], b, _, h => by unfold mergeM; exact h
  | x :: a, [], h, _ => by unfold mergeM; exact h
  | x :: a, y :: b, ha, hb => by
    have ha' := List.pairwise_cons.1 ha
    have hb' := List.pairwise_cons.1 hb
    unfold mergeM
    split
    · rename_i h1
      refine List.pairwise_cons.2 ⟨fun z hz => ?_, mergeM_rising a (y :: b) ha'.2 hb⟩
      rcases (mergeM_mem a (y :: b)).1 hz with h | h
      · exact ha'.1 z h
      · rcases List.mem_cons.1 h with rfl | h
        · exact h1
        · exact List.lt_trans h1 (hb'.1 z h)
    · split
      · rename_i h1 h2
        refine List.pairwise_cons.2 ⟨fun z hz => ?_, mergeM_rising (x :: a) b ha hb'.2⟩
        rcases (mergeM_mem (x :: a) b).1 hz with h | h
        · rcases List.mem_cons.1 h with rfl | h
          · exact h2
          · exact List.lt_trans h2 (ha'.1 z h)
        · exact hb'.1 z h
      · rename_i h1 h2
        have e : x = y := List.le_antisymm (List.not_lt.1 h2) (List.not_lt.1 h1)
        subst e
        refine List.pairwise_cons.2 ⟨fun z hz => ?_, mergeM_rising a b ha'.2 hb'.2⟩
        rcases (mergeM_mem a b).1 hz with h | h
        · exact ha'.1 z h
        · exact hb'.1 z h
termination_by a b => a.length + b.length
/-- What the law asks of the free names, behind a substitution. -/
theorem free_merged {A B S : List (List UInt8)} {nm : List UInt8} (hA : A.Nodup) (hB : B.Nodup) (hS : S.Nodup) (h : ∀ x, x ∈ S ↔ (x ∈ A ∧ x ≠ nm) ∨ x ∈ B) : S.mergeSort leB = mergeM ((A.mergeSort leB).filter (fun x => !(x == nm))) (B.mergeSort leB) := by
  refine rising_eq (rising_sort hS) (mergeM_rising _ _ ((rising_sort hA).filter _) (rising_sort hB)) (fun x => ?_)
  rw [mergeM_mem, List.mem_filter, (List.mergeSort_perm S leB).mem_iff, (List.mergeSort_perm A leB).mem_iff, (List.mergeSort_perm B leB).mem_iff, h]
  simp
theorem zip_self {α : Type} {f : α × α → Bool} : ∀ (l : List α), (∀ x ∈ l, f (x, x) = true) → (l.zip l).all f = true
  | [], _ => rfl
  | x :: l, h => by
    rw [List.zip_cons_cons, List.all_cons, h x List.mem_cons_self, zip_self l (fun y hy => h y (List.mem_cons_of_mem _ hy))]; rfl
theorem name_self (k : Int) (a : ByteArray) (n : List (List UInt8)) : nameM k a a n n = true := by
  unfold nameM; split <;> simp
/-- An expression is the same as itself. -/
theorem same_self : ∀ (d : Nat) (t : Tr d) (n : List (List UInt8)), sameM d t t n n = true
  | 0, t, _ => nomatch t
  | d + 1, t, n => by
    unfold sameM
    rw [name_self, zip_self _ (fun b _ => same_self d b.2 _), zip_self _ (fun e _ => same_self d e _), zip_self _ (fun a _ => by
      show ((((a.1.kind == a.1.kind) && (a.1.name.toList == a.1.name.toList)) && ((a.1.num == a.1.num) && (a.1.vars.length == a.1.vars.length))) && _) = true
      rw [same_self d a.2 _]; simp)]
    simp
end Go.Proofs.YtegdloenakachaaGreatDoor

namespace Go.Proofs.YtegdloenakachaaGreatDoor
open Go.RowKit Go.Shelf Go.Maps Go.Sort
set_option linter.unusedVariables false

/-- Of an expression that may be a variable has its name alone. -/
theorem varOK_of (ab : List AltH → Bool) : ∀ (d : Nat) (t : Tr d), allM (fun _ t => mbN ab t) d t = true → VarOK d t
  | 0, t, _ => nomatch t
  | d + 1, t, h => by
    have h' : (mbN ab (T := Tr d) t && ((TrN.binds t).all (fun b => allM (fun _ t => mbN ab t) d b.2) && ((TrN.args t).all (fun e => allM (fun _ t => mbN ab t) d e) && (TrN.alts t).all (fun a => allM (fun _ t => mbN ab t) d a.2)))) = true := h
    rw [Bool.and_eq_true, Bool.and_eq_true, Bool.and_eq_true] at h'
    obtain ⟨h0, h1, h2, h3⟩ := h'
    refine ⟨fun hk => ?_, fun b hb => varOK_of ab d _ (List.all_eq_true.1 h1 b hb), fun b hb => varOK_of ab d _ (List.all_eq_true.1 h2 b hb), fun b hb => varOK_of ab d _ (List.all_eq_true.1 h3 b hb)⟩
    unfold mbN at h0
    rw [Bool.and_eq_true] at h0
    have h4 := h0.1
    rw [show fieldsM (TrN.kind t) = 1 by rw [hk]; rfl] at h4
    unfold okF at h4
    have q : ∀ i, i < 6 → 1 ≤ i → fillB (T := Tr d) t i = false := fun i hi h1 => by
      have := List.all_eq_true.1 h4 i (List.mem_range.2 hi)
      have e : Nat.testBit 1 i = false := by
        have : i = 1 ∨ i = 2 ∨ i = 3 ∨ i = 4 ∨ i = 5 := by omega
        rcases this with rfl | rfl | rfl | rfl | rfl <;> decide
      rw [e] at this
      simpa using this
    have e2 := q 2 (by omega) (by omega)
    have e3 := q 3 (by omega) (by omega)
    have e4 := q 4 (by omega) (by omega)
    have e5 := q 5 (by omega) (by omega)
    simp only [fillB, decide_eq_false_iff_not, Nat.not_lt, Nat.le_zero, List.length_eq_zero_iff] at e2 e3 e4 e5
    exact ⟨e2, e3, e4, e5⟩
theorem varOK_chk {ab : List AltH → Bool} {fs : List CT} {d : Nat} {n : ByteArray} {t : Tr d} {R : Bool} (h : chkN ab fs d [(n, t)] R ≠ 2) : VarOK d t := by
  unfold chkN at h
  by_cases h1 : [(n, t)].all (fun b => allM (fun _ t => mbN ab t) d b.2) = false
  · rw [if_pos h1] at h; exact absurd rfl h
  · refine varOK_of ab d t ?_
    simpa using h1
/-- Names as a slice of texts. -/
def VarsAt (W : World) (v : Value) (l : List ByteArray) : Prop := ∃ o c, v = .slice o l.length c ∧ ((o = none ∧ l = [] ∧ c = 0) ∨ ∃ g off, o = some ⟨g, off, none⟩ ∧ ∀ k (h : k < l.length), W.cell? ⟨g, off + k, none⟩ = some (.string l[k]))
theorem cell_lt9 {W : World} {b off : Nat} {v : Value} (h : W.cell? ⟨b, off, none⟩ = some v) : b < W.heap.size := by
  by_cases e : b < W.heap.size
  · exact e
  · have : W.heap[b]? = none := Array.getElem?_eq_none (by omega)
    simp [World.cell?, this] at h
theorem VarsAt.below {W W' : World} {v : Value} {l : List ByteArray} (h : VarsAt W v l) (hb : Below W.heap.size W W') : VarsAt W' v l := by
  obtain ⟨o, c, e, h⟩ := h
  refine ⟨o, c, e, ?_⟩
  rcases h with h | ⟨g, off, e2, h⟩
  · exact .inl h
  · exact .inr ⟨g, off, e2, fun k hk => (hb.cell (p := ⟨g, off + k, none⟩) (cell_lt9 (h k hk))).trans (h k hk)⟩
/-- A program's one name, and others behind it. -/
theorem app_vars {o : Oper} {a : Act} {K : Act → World → Prop} {Q : Exit → Act → World → Prop} {w : World} (s x : Operand) (ho : o.op = .call { callee := .builtin .append, args := #[s, x], argTypes := #[26, 26] }) (base gb : Nat) (hk : Blk w gb #[.string mainB] 9) (hbg : base ≤ gb) (hs : a.eval s = .slice (some ⟨gb, 0, none⟩) 1 1)
    (vs : Value) (vl : List ByteArray) (hx : a.eval x = vs) (hv : VarsAt w vs vl) (hl : vl.length ≤ 1000000)
    (h : ∀ g' c' w', base ≤ g' → TxIn w' w'.heap.size (some ⟨g', 0, none⟩) (mainB :: vl) → w.grownBy w' (some gb) → K (a.put o.dst (.slice (some ⟨g', 0, none⟩) (mainB :: vl).length c')) w') : o.wp Tryz.prog a w K Q := by
  obtain ⟨i, hi, hz, hsz, hby⟩ := info_parts infoStr7
  have hown : w.ownsRow base 9 1 (.slice (some ⟨gb, 0, none⟩) 1 1) 1 [.string mainB] := ⟨rfl, .inr ⟨gb, 1, #[.string mainB], rfl, hbg, hk, Nat.le_refl _, by unfold maxLen; omega, rfl, rfl⟩⟩
  obtain ⟨ov, cv, rfl, hv⟩ := hv
  rcases hv with ⟨rfl, rfl, rfl⟩ | ⟨g, off, rfl, hc⟩
  · have hr := run_append_owned_none (P := Tryz.prog) w base 26 o.type 9 i 1 Tryz.underlying26 hi _ _ _ hown
    unfold Oper.wp execOp
    simp only [ho, resolve, invoke, builtin, Sem.run_bind, Sem.run_pure, Result.andThen_ok, List.map_toArray, List.map_cons, List.map_nil, hs, hx]
    rw [show (Builtin.append_ #[26, 26] o.type #[Value.slice (some ⟨gb, 0, none⟩) 1 1, Value.slice none ([] : List ByteArray).length 0]).run Tryz.prog w = _ from hr]
    exact h gb 1 w hbg (.inr ⟨gb, 0, rfl, hk.lt, fun k hk9 => by
      have hk0 : k = 0 := by have : k < 1 := hk9; omega
      subst hk0; exact hk.cell 0 _ rfl⟩) ⟨rfl, rfl, rfl, Nat.le_refl _, fun _ _ _ => rfl⟩
  · have hlw := hk.lt
    obtain ⟨v', w', hr, h2, h3, h4⟩ := run_append_own (P := Tryz.prog) w base 26 o.type 9 i (.string ⟨#[]⟩) 1 16 Tryz.underlying26 hi hz hsz hby rfl (by omega) _ 1 _ hown ⟨g, off, none⟩ vl.length cv (vl.map Value.string) (by simp) (fun j u hj => by
      rw [List.getElem?_map] at hj
      obtain ⟨y, hy, rfl⟩ := Option.map_eq_some_iff.1 hj
      obtain ⟨hj2, rfl⟩ := List.getElem?_eq_some_iff.1 hy
      rw [Addr.add_lit]
      exact hc j hj2) (fun u hu => by obtain ⟨y, -, rfl⟩ := List.mem_map.1 hu; rfl) (by unfold maxLen; omega) (by omega) (by omega)
    unfold Oper.wp execOp
    simp only [ho, resolve, invoke, builtin, Sem.run_bind, Sem.run_pure, Result.andThen_ok, List.map_toArray, List.map_cons, List.map_nil, hs, hx, hr]
    have h2' := h2
    rcases h2'.2 with ⟨rfl, hz⟩ | ⟨g', cap, cur, rfl, hb', hg', -⟩
    · omega
    · have e : (1 + vl.length) = (mainB :: vl).length := by simp; omega
      have hT : TxIn w' w'.heap.size (some ⟨g', 0, none⟩) (mainB :: vl) := by
        refine .inr ⟨g', 0, rfl, (Array.getElem?_eq_some_iff.1 hg').1, fun k hk9 => ?_⟩
        rw [Nat.zero_add, h2.cellAt k (by rw [Nat.mul_one, e]; exact hk9)]
        cases k with
        | zero => rfl
        | succ k =>
          show (vl.map Value.string)[k]? = _
          rw [List.getElem?_map, List.getElem?_eq_getElem (by simpa using hk9)]
          rfl
      have := h g' cap w' hb' hT h3
      rw [← e] at this
      exact this
def NmRow {α : Type} (W : World) (B n : Nat) (l : List (ByteArray × α)) : Prop := ∃ arr : Array Value, Blk W B arr 9 ∧ arr.size = n ∧ ∀ (i : Nat) (y : ByteArray × α), l[i]? = some y → arr[i]? = some (Value.string y.1)
set_option maxRecDepth 100000 in
set_option maxHeartbeats 4000000 in
theorem boundByB_c (d : Nat) (l : List (ByteArray × Tr d)) (o : Option Addr) (cap B : Nat) (w : World) (hl : RowIn B 8 (fun (b : ByteArray × Tr d) g off => w.cell? ⟨g, off, none⟩ = some (.string b.1) ∧ ExAt w B d b.2 g (off + 1)) o l) (hw : B ≤ w.heap.size) (hn : l.length ≤ 2000000) :
    Calls Tryz.prog 42 #[.slice o l.length cap] w fun e w' => e = .returned (.slice (some ⟨w.heap.size, 0, none⟩) l.length l.length) ∧ NmRow w' w.heap.size l.length l ∧ Below w.heap.size w w' := by
  obtain ⟨n, hln⟩ : ∃ n, l.length = n := ⟨_, rfl⟩
  have hmk : ∀ W : World, (Instr.makeSlice 26 (.int .i64 (n : Int)) (.int .i64 (n : Int))).run Tryz.prog W = .ok (.slice (some ⟨W.heap.size, 0, none⟩) n n) (W.alloc (.cells (madeCells #[.string ⟨#[]⟩] n) 9)) := fun W => run_make_row' 26 9 (.string ⟨#[]⟩) 16 Tryz.underlying26 infoStr7 rfl .i64 .i64 n (by omega) (by omega) W
  have HL : Hid (RowIn B 8 (fun (b : ByteArray × Tr d) g off => w.cell? ⟨g, off, none⟩ = some (.string b.1) ∧ ExAt w B d b.2 g (off + 1)) o l ∧ B ≤ w.heap.size ∧ l.length = n) := ⟨hl, hw, hln⟩
  have hni : (n : Int) ≤ 2000000 := by omega
  have H0 : Hid (Blk (w.alloc (.cells (madeCells #[.string ⟨#[]⟩] n) 9)) w.heap.size (madeCells #[.string ⟨#[]⟩] n) 9 ∧ (madeCells #[.string ⟨#[]⟩] n).size = n ∧ Below w.heap.size w (w.alloc (.cells (madeCells #[.string ⟨#[]⟩] n) 9))) := ⟨Blk.new w _ _, size_madeCells _ _, below1 w _⟩
  rw [hln]
  clear hl hw hn hln
  go_enter Tryz.func42, Tryz.ntmps42
  go_wp2
  clear hmk
  go_loopw [10] (fun v wr => ∃ k : Nat, v = .int .i64 (k : Int) ∧ Hid (k ≤ n ∧ ∃ arr : Array Value, Blk wr w.heap.size arr 9 ∧ arr.size = n ∧ (∀ i (h : i < l.length), i < k → arr[i]? = some (.string l[i].1)) ∧ Below w.heap.size w wr)) (fun v _ => n - (intOf v).toNat)
  case atStart => exact ⟨0, rfl, ⟨Nat.zero_le _, _, H0.out.1, H0.out.2.1, fun i h hi => by omega, H0.out.2.2⟩⟩
  case round =>
    clear H0
    obtain ⟨k, rfl, HI⟩ := hrel
    by_cases hk : k < n
    · obtain ⟨-, arr, h1, h2, h3, h4⟩ := HI.out
      have hkl : k < l.length := by rw [HL.out.2.2]; exact hk
      obtain ⟨g, off, rfl, hg, hx⟩ : ∃ g off, o = some ⟨g, off, none⟩ ∧ g < B ∧ w.cell? ⟨g, off + k * 8, none⟩ = some (.string l[k].1) := by
        rcases HL.out.1 with h9 | ⟨g, off, e, hg, h9⟩
        · rw [h9] at hkl; exact absurd hkl (Nat.not_lt_zero _)
        · exact ⟨g, off, e, hg, (h9 k hkl).1⟩
      have hgw : g < wr.heap.size := by have := h4.size; have := HL.out.2.1; omega
      have hcx : wr.cell? ⟨g, off + k * 8, none⟩ = some (.string l[k].1) := (h4.cell (p := ⟨g, off + k * 8, none⟩) (by show g < w.heap.size; have := HL.out.2.1; omega)).trans hx
      obtain ⟨old, hold⟩ : ∃ old, arr[k]? = some old := ⟨_, Array.getElem?_eq_getElem (by omega)⟩
      have hco : wr.cell? ⟨w.heap.size, k, none⟩ = some old := h1.cell k _ hold
      have hfo : wr.frozen? ⟨w.heap.size, k, none⟩ = false := h1.frozen k
      have hlo := h1.lt
      have hki : (k : Int) < (n : Int) := by omega
      obtain ⟨nm, hnm⟩ : ∃ nm, l[k].1 = nm := ⟨_, rfl⟩
      rw [hnm] at hcx
      have HK : Hid (k < n ∧ ∃ h : k < l.length, l[k].1 = nm) := ⟨hk, hkl, hnm⟩
      clear h1 h2 h3 h4 hk hx hold hnm hkl
      go_wp2
      refine ⟨⟨k + 1, by congr 1, ⟨HK.out.1, ?_⟩⟩, ?_⟩
      · obtain ⟨-, arr, h1, h2, h3, h4⟩ := HI.out
        refine ⟨arr.setIfInBounds k (.string nm), h1.set k _, by simpa using h2, fun i hi hik => ?_, h4.setCell (p := ⟨w.heap.size, k, none⟩) (Nat.le_refl _) _⟩
        obtain ⟨q1, q2⟩ := HK.out.2
        by_cases e : i = k
        · subst e
          rw [Array.getElem?_setIfInBounds_self_of_lt (by have := HK.out.1; omega), q2]
        · rw [Array.getElem?_setIfInBounds_ne (Ne.symm e)]
          exact h3 i hi (by omega)
      · show n - ((k : Int) + 1).toNat < n - ((k : Int)).toNat
        have := HK.out.1; omega
    · have hki : ¬ (k : Int) < (n : Int) := by omega
      have HX : Hid (NmRow wr w.heap.size n l ∧ Below w.heap.size w wr) := by
        obtain ⟨q0, arr, h1, h2, h3, h4⟩ := HI.out
        exact ⟨⟨arr, h1, h2, fun i y hy => by obtain ⟨hi, rfl⟩ := List.getElem?_eq_some_iff.1 hy; exact h3 i hi (by have := HL.out.2.2; omega)⟩, h4⟩
      clear hk
      go_wp2
      go_ret
      exact ⟨rfl, HX.out⟩
/-- The names of a program with one binding. -/
theorem boundBy1_c (M : Nat) (c0 c1 c2 c3 c4 c5 c6 : Value) (T : TypeId) (cap : Nat) (w : World) (hM : Blk w M #[.string mainB, c0, c1, c2, c3, c4, c5, c6] T) (d : Nat) (t : Tr d) (hE : ExAt w w.heap.size d t M 1) :
    Calls Tryz.prog 42 #[.slice (some ⟨M, 0, none⟩) 1 cap] w fun e w' => e = .returned (.slice (some ⟨w.heap.size, 0, none⟩) 1 1) ∧ Blk w' w.heap.size #[.string mainB] 9 ∧ Below w.heap.size w w' := by
  refine (boundByB_c d [(mainB, t)] (some ⟨M, 0, none⟩) cap w.heap.size w (.inr ⟨M, 0, rfl, hM.lt, fun k hk => ?_⟩) (Nat.le_refl _) (by simp)).mono ?_
  · have hk0 : k = 0 := by have : k < 1 := hk; omega
    subst hk0
    exact ⟨hM.cell 0 _ rfl, hE⟩
  · rintro r w' ⟨rfl, ⟨arr, h1, h2, h3⟩, h4⟩
    refine ⟨rfl, ?_, h4⟩
    have e : arr = #[.string mainB] := by
      have h5 := h3 0 _ rfl
      apply Array.ext
      · simpa using h2
      · intro i hi _
        have hi0 : i = 0 := by have : arr.size = 1 := h2; omega
        subst hi0
        exact (Array.getElem?_eq_some_iff.1 h5).2
    rw [← e]; exact h1
end Go.Proofs.YtegdloenakachaaGreatDoor

namespace Go.Proofs.YtegdloenakachaaGreatDoor
open Go.RowKit Go.Shelf Go.Maps
set_option linter.unusedVariables false

/-- An expression's value, whatever the depth. -/
def ExV (W : World) : (d : Nat) → Tr d → Value → Prop
  | 0, t, _ => nomatch t
  | d + 1, t, v => ExVal W W.heap.size d t v
theorem ExAt.get {W : World} {B : Nat} : ∀ {d : Nat} {t : Tr d} {g off : Nat}, ExAt W B d t g off → B ≤ W.heap.size → ∃ (kd : Int) (nm : ByteArray) (nu : Int) (o3 : Option Addr) (n3 c3 : Nat) (o4 : Option Addr) (n4 c4 : Nat) (o5 : Option Addr) (n5 c5 : Nat) (o6 : Option Addr) (n6 c6 : Nat),
    W.cell? ⟨g, off, none⟩ = some (.int .i64 kd) ∧ W.cell? ⟨g, off + 1, none⟩ = some (.string nm) ∧ W.cell? ⟨g, off + 2, none⟩ = some (.int .i64 nu) ∧ W.cell? ⟨g, off + 3, none⟩ = some (.slice o3 n3 c3) ∧ W.cell? ⟨g, off + 4, none⟩ = some (.slice o4 n4 c4) ∧ W.cell? ⟨g, off + 5, none⟩ = some (.slice o5 n5 c5) ∧ W.cell? ⟨g, off + 6, none⟩ = some (.slice o6 n6 c6) ∧ ExV W d t (.agg #[.int .i64 kd, .string nm, .int .i64 nu, .slice o3 n3 c3, .slice o4 n4 c4, .slice o5 n5 c5, .slice o6 n6 c6])
  | 0, t, _, _, _, _ => nomatch t
  | d + 1, t, g, off, h, hB => by
    obtain ⟨hg, h0, h1, h2, ⟨o3, c3, h3, k3⟩, ⟨o4, c4, h4, k4⟩, ⟨o5, c5, h5, k5⟩, ⟨o6, c6, h6, k6⟩⟩ := h
    refine ⟨_, _, _, _, _, _, _, _, _, _, _, _, _, _, _, h0, h1, h2, h3, h4, h5, h6, ?_⟩
    refine ⟨o3, c3, o4, c4, o5, c5, o6, c6, rfl, k3.mono hB, k4.up hB ?_, k5.up hB ?_, k6.up hB ?_⟩
    · rintro x g off hg ⟨e1, e2⟩
      exact ⟨e1, ExAt.up hB d _ _ _ e2⟩
    · intro x g off hg e
      exact ExAt.up hB d _ _ _ e
    · rintro x g off hg ⟨e1, e2, e3, ⟨o, c, e4, e5⟩, e6⟩
      exact ⟨e1, e2, e3, ⟨o, c, e4, e5.mono hB⟩, ExAt.up hB d _ _ _ e6⟩
/-- What is known of what countExprs answers. -/
def CntP (most : Int) (D d : Nat) (t : Tr d) (w : World) (r : Ending) (W' : World) : Prop := ∃ x : Int, r = .returned (.int .i64 x) ∧ (1 ≤ x ∧ x ≤ 600000000000000 * ((D : Int) + 1)) ∧ (x ≤ most → depLe d t D ∧ (cntM d t : Int) = x) ∧ Below w.heap.size w W'
def CntOK (most : Int) (D : Nat) : Prop := ∀ (d : Nat) (t : Tr d) (v : Value) (w : World), ExV w d t v → WfT d t → Calls Tryz.prog 45 #[v, .int .i64 most, .int .i64 D] w fun r W' => CntP most D d t w r W'
set_option maxRecDepth 100000 in
set_option maxHeartbeats 4000000 in
theorem cnt_zero (most : Int) (hm : 0 ≤ most ∧ most ≤ 1000000) : CntOK most 0 := by
  intro d t v w hv hw
  cases d with
  | zero => exact nomatch t
  | succ d =>
    obtain ⟨o3, c3, o4, c4, o5, c5, o6, c6, rfl, k3, k4, k5, k6⟩ := hv
    obtain ⟨-, h1, -, ⟨h3, -⟩, -⟩ := hw
    have HB : Hid (∀ a, Below w.heap.size w (w.alloc a)) := fun a => below1 w a
    unfold LB at h1 h3
    generalize TrN.kind t = kd at *
    generalize TrN.name t = nm at *
    generalize TrN.num t = nu at *
    generalize (TrN.params t).length = n3 at *
    generalize (TrN.binds t).length = n4 at *
    generalize (TrN.args t).length = n5 at *
    generalize (TrN.alts t).length = n6 at *
    have h1z : (nm.size : Int) ≤ 140737488355328 := by omega
    have h3z : (n3 : Int) ≤ 140737488355328 := by omega
    obtain ⟨hm0, hm1⟩ := hm
    clear k3 k4 k5 k6
    go_enter Tryz.func45, Tryz.ntmps45
    go_wp2
    go_ret
    exact ⟨_, rfl, ⟨by omega, by omega⟩, fun h => by omega, HB.out _⟩
end Go.Proofs.YtegdloenakachaaGreatDoor
