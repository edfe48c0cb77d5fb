/-
  For CoreFree: the expression behind a substitution is not too big, and its names can be.
-/
import Derived.Test.YtegdloenakachaaGreatDoorCF06
namespace Go.Proofs.YtegdloenakachaaGreatDoor
open Go.RowKit Go.Shelf Go.Maps Go.Sort
set_option linter.unusedVariables false
theorem rc_def (d : Nat) (t : Tr (d + 1)) : rcM (d + 1) t = (bndM t).length + 1 + ((TrN.binds t).map (fun b => rcM d b.2)).sum + ((TrN.args t).map (rcM d)).sum + ((TrN.alts t).map (fun a => a.1.vars.length + rcM d a.2)).sum := by
  have h4 : ((TrN.binds t).map (fun b => rcM d b.2)).sum = ((TrN.binds t).map (fun b => costM d b.2)).sum + ((TrN.binds t).map (fun b => sizeM d b.2)).sum := sum_add
  have h5 : ((TrN.args t).map (rcM d)).sum = ((TrN.args t).map (fun e => costM d e)).sum + ((TrN.args t).map (sizeM d)).sum := sum_add
  have h6 : ((TrN.alts t).map (fun a => a.1.vars.length + rcM d a.2)).sum = ((TrN.alts t).map (fun a => a.1.vars.length + costM d a.2)).sum + ((TrN.alts t).map (fun a => sizeM d a.2)).sum := by
    rw [← sum_add]
    exact congrArg List.sum (map_congr' (fun x _ => by unfold rcM; omega))
  have h0 : rcM (d + 1) t = ((bndM t).length + ((TrN.binds t).map fun b => costM d b.2).sum + ((TrN.args t).map (fun e => costM d e)).sum + ((TrN.alts t).map fun a => a.1.vars.length + costM d a.2).sum) + (1 + ((TrN.binds t).map fun b => sizeM d b.2).sum + ((TrN.args t).map (sizeM d)).sum + ((TrN.alts t).map fun a => sizeM d a.2).sum) := rfl
  omega
theorem rc_lift1 : ∀ (d : Nat) (t : Tr d), rcM (d + 1) (lift1 d t) = rcM d t
  | 0, t => nomatch t
  | d + 1, t => by
    rw [rc_def (d + 1) (lift1 (d + 1) t), rc_def d t, bnd_lift1]
    have a4 : ((TrN.binds (show TrN (Tr (d + 1)) from lift1 (d + 1) t)).map (fun b => rcM (d + 1) b.2)) = (TrN.binds t).map (fun b => rcM d b.2) := by
      show (((TrN.binds t).map (fun b => (b.1, lift1 d b.2))).map (fun b => rcM (d + 1) b.2)) = _
      rw [List.map_map]
      exact map_congr' (fun x _ => rc_lift1 d x.2)
    have a5 : ((TrN.args (show TrN (Tr (d + 1)) from lift1 (d + 1) t)).map (rcM (d + 1))) = (TrN.args t).map (rcM d) := by
      show (((TrN.args t).map (lift1 d)).map (rcM (d + 1))) = _
      rw [List.map_map]
      exact map_congr' (fun x _ => rc_lift1 d x)
    have a6 : ((TrN.alts (show TrN (Tr (d + 1)) from lift1 (d + 1) t)).map (fun a => a.1.vars.length + rcM (d + 1) a.2)) = (TrN.alts t).map (fun a => a.1.vars.length + rcM d a.2) := by
      show (((TrN.alts t).map (fun a => (a.1, lift1 d a.2))).map (fun a => a.1.vars.length + rcM (d + 1) a.2)) = _
      rw [List.map_map]
      exact map_congr' (fun x _ => congrArg (x.1.vars.length + ·) (rc_lift1 d x.2))
    rw [a4, a5, a6]
theorem rc_liftN {d : Nat} (t : Tr d) : ∀ k, rcM (d + k) (liftN t k) = rcM d t
  | 0 => rfl
  | k + 1 => (rc_lift1 (d + k) (liftN t k)).trans (rc_liftN t k)
theorem All2.sum {α β : Type} {R : α → β → Prop} {f : β → Nat} {g : α → Nat} : ∀ {l : List α} {l' : List β}, All2 R l l' → (∀ a ∈ l, ∀ b, R a b → f b ≤ g a) → (l'.map f).sum ≤ (l.map g).sum
  | [], l', h, _ => by
    have : l' = [] := List.length_eq_zero_iff.1 h.1
    subst this; exact Nat.le_refl _
  | a :: l, [], h, _ => by have := h.1; simp at this
  | a :: l, b :: l', h, hf => by
    obtain ⟨h1, h2⟩ := All2.cons h
    have e1 := hf a (by simp) b h1
    have e2 := All2.sum h2 (fun x hx y hy => hf x (List.mem_cons_of_mem _ hx) y hy)
    rw [List.map_cons, List.map_cons, List.sum_cons, List.sum_cons]
    omega
theorem All2.of_mem {α β : Type} {R : α → β → Prop} {l : List α} {l' : List β} (h : All2 R l l') {b : β} (hb : b ∈ l') : ∃ a ∈ l, R a b := by
  obtain ⟨k, hk, rfl⟩ := List.getElem_of_mem hb
  have h1 : k < l.length := by have := h.1; omega
  exact ⟨l[k], List.getElem_mem h1, h.2 k h1 hk⟩
theorem sum_mulK {α : Type} {K : Nat} {f : α → Nat} : ∀ (l : List α), (l.map (fun x => K * f x)).sum = K * (l.map f).sum
  | [] => by simp
  | x :: l => by rw [List.map_cons, List.map_cons, List.sum_cons, List.sum_cons, sum_mulK l, Nat.mul_add]
theorem rc_pos {d : Nat} (t : Tr (d + 1)) : 1 ≤ rcM (d + 1) t := by rw [rc_def]; omega
theorem rc_sub {nm : ByteArray} {F : List UInt8 → Bool} {db : Nat} {b : Tr db} {φ : List UInt8 → Nat} : ∀ (d : Nat) (ns : List (List UInt8)) (t : Tr d) (t' : Tr (db + d)), SubR nm F db b φ d ns t t' → rcM (db + d) t' ≤ (rcM db b + 1) * rcM d t
  | 0, _, t, _, _ => nomatch t
  | d + 1, ns, t, t', h => by
    rcases h with ⟨k1, k2, k3, k4⟩ | ⟨hno, k1, k2, k3, k4, k5, k6, k7, k8, k9⟩
    · subst k4
      rw [rc_liftN]
      exact Nat.le_trans (Nat.le_succ _) (Nat.le_mul_of_pos_right _ (rc_pos t))
    · have eB : (bndM (show Tr (db + d + 1) from t')).length = (bndM t).length := by
        unfold bndM
        rw [List.length_append, List.length_append, List.length_map, List.length_map]
        have e1 := congrArg List.length k6
        rw [List.length_map] at e1
        have e2 := k7.1
        exact (congr (congrArg HAdd.hAdd e1) (by omega))
      have a4 := All2.sum (f := fun (q : ByteArray × Tr (db + d)) => rcM (db + d) q.2) (g := fun p => (rcM db b + 1) * rcM d p.2) k7 (fun p _ q hq => rc_sub d _ _ _ hq.2)
      have a5 := All2.sum (f := rcM (db + d)) (g := fun p => (rcM db b + 1) * rcM d p) k8 (fun p _ q hq => rc_sub d _ _ _ hq)
      have a6 := All2.sum (f := fun (q : AltH × Tr (db + d)) => q.1.vars.length + rcM (db + d) q.2) (g := fun p => (rcM db b + 1) * (p.1.vars.length + rcM d p.2)) k9 (fun p _ q hq => by
        obtain ⟨-, hq1, hq2⟩ := hq
        have h1 := rc_sub d _ _ _ hq2
        have h2 : q.1.vars.length = p.1.vars.length := by rw [hq1]; exact List.length_map _
        rw [h2, Nat.mul_add]
        have h3 : p.1.vars.length ≤ (rcM db b + 1) * p.1.vars.length := Nat.le_mul_of_pos_left _ (Nat.succ_pos _)
        omega)
      rw [sum_mulK] at a4 a5 a6
      have h3 : (bndM (show Tr (db + d + 1) from t')).length + 1 ≤ (rcM db b + 1) * ((bndM t).length + 1) := by rw [eB]; exact Nat.le_mul_of_pos_left _ (Nat.succ_pos _)
      refine Nat.le_trans (Nat.le_of_eq (rc_def (db + d) t')) ?_
      rw [rc_def d t, Nat.mul_add (rcM db b + 1), Nat.mul_add (rcM db b + 1), Nat.mul_add (rcM db b + 1)]
      exact Nat.add_le_add (Nat.add_le_add (Nat.add_le_add h3 a4) a5) a6
theorem nm_lift1 : ∀ (d : Nat) (t : Tr d), NmOK d t → NmOK (d + 1) (lift1 d t)
  | 0, t, _ => nomatch t
  | d + 1, t, h => by
    obtain ⟨h1, h2, h3, h4, h5⟩ := h
    refine ⟨h1, by rw [bnd_lift1]; exact h2, fun x hx => ?_, fun x hx => ?_, fun x hx => ?_⟩
    · obtain ⟨y, hy, rfl⟩ := List.mem_map.1 (show x ∈ (TrN.binds t).map (fun b => (b.1, lift1 d b.2)) from hx)
      exact nm_lift1 d _ (h3 y hy)
    · obtain ⟨y, hy, rfl⟩ := List.mem_map.1 (show x ∈ (TrN.args t).map (lift1 d) from hx)
      exact nm_lift1 d _ (h4 y hy)
    · obtain ⟨y, hy, rfl⟩ := List.mem_map.1 (show x ∈ (TrN.alts t).map (fun a => (a.1, lift1 d a.2)) from hx)
      exact ⟨(h5 y hy).1, nm_lift1 d _ (h5 y hy).2⟩
theorem nm_liftN {d : Nat} {t : Tr d} (h : NmOK d t) : ∀ k, NmOK (d + k) (liftN t k)
  | 0 => h
  | k + 1 => nm_lift1 (d + k) _ (nm_liftN h k)
theorem rnB_small {F : List UInt8 → Bool} {φ : List UInt8 → Nat} {x : ByteArray} (hφ : ∀ y, φ y ≤ 1000000000000000) (hx : x.size ≤ maxLen) : (rnB F φ x).size ≤ maxLen := by
  unfold rnB
  split
  · have h1 := hφ x.data.toList
    have h2 := numB_size (φ x.data.toList) (by omega)
    unfold maxLen; omega
  · exact hx
theorem nm_sub {nm : ByteArray} {F : List UInt8 → Bool} {db : Nat} {b : Tr db} {φ : List UInt8 → Nat} (hφ : ∀ y, φ y ≤ 1000000000000000) (hb : NmOK db b) : ∀ (d : Nat) (ns : List (List UInt8)) (t : Tr d) (t' : Tr (db + d)), SubR nm F db b φ d ns t t' → NmOK d t → NmOK (db + d) t'
  | 0, _, t, _, _, _ => nomatch t
  | d + 1, ns, t, t', h, hN => by
    obtain ⟨n1, n2, n3, n4, n5⟩ := hN
    rcases h with ⟨k1, k2, k3, k4⟩ | ⟨hno, k1, k2, k3, k4, k5, k6, k7, k8, k9⟩
    · subst k4
      exact nm_liftN hb (d + 1)
    · refine ⟨?_, fun x hx => ?_, fun x hx => ?_, fun x hx => ?_, fun x hx => ?_⟩
      · rw [k3]
        split
        · exact rnB_small hφ n1
        · exact n1
      · unfold bndM at hx
        rcases List.mem_append.1 hx with hx | hx
        · rw [k6] at hx
          obtain ⟨y, hy, rfl⟩ := List.mem_map.1 hx
          exact rnB_small hφ (n2 y (List.mem_append.2 (.inl hy)))
        · obtain ⟨q, hq, rfl⟩ := List.mem_map.1 hx
          obtain ⟨p, hp, e, -⟩ := k7.of_mem hq
          rw [e]
          exact rnB_small hφ (n2 p.1 (List.mem_append.2 (.inr (List.mem_map.2 ⟨p, hp, rfl⟩))))
      · obtain ⟨p, hp, -, e⟩ := k7.of_mem hx
        exact nm_sub hφ hb d _ _ _ e (n3 p hp)
      · obtain ⟨p, hp, e⟩ := k8.of_mem hx
        exact nm_sub hφ hb d _ _ _ e (n4 p hp)
      · obtain ⟨p, hp, -, e1, e2⟩ := k9.of_mem hx
        refine ⟨fun y hy => ?_, nm_sub hφ hb d _ _ _ e2 (n5 p hp).2⟩
        rw [e1] at hy
        obtain ⟨z, hz, rfl⟩ := List.mem_map.1 hy
        exact rnB_small hφ ((n5 p hp).1 z hz)
end Go.Proofs.YtegdloenakachaaGreatDoor
