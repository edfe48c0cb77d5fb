/-
  One walk for all binders, as mathematics (stage 16): how much the state grows.
-/
import Derived.Test.YtjmpjfggbhongaaDoorVc
namespace Go.Proofs.YtjmpjfggbhongaaDoor
open Go.RowKit Go.Shelf Go.Maps
set_option linter.unusedVariables false

def tot (s : WS) : Nat := s.met + s.puts + s.bs.length + s.asked.length + s.scope.length + s.parts.length + s.lam
theorem tot_fresh (nm : ByteArray) (h : Option Nat) (s : WS) : tot (freshS nm h s) = tot s + 4 := by simp [tot, freshS]; omega
theorem tot_bind (o : Nat) (nm : ByteArray) (s : WS) : tot (bindS o nm s) ≤ tot s + 4 := by
  unfold bindS
  cases s.named nm.data.toList with
  | none => exact Nat.le_of_eq (tot_fresh _ _ _)
  | some b =>
    show tot (if _ then _ else _) ≤ _
    split
    · exact Nat.le_of_eq (tot_fresh _ _ _)
    · simp [tot]; omega
theorem tot_binds (o : Nat) : ∀ (l : List ByteArray) (s : WS), tot (bindsS o l s) ≤ tot s + 4 * l.length
  | [], s => Nat.le_refl _
  | n :: l, s => by
    have h1 := tot_binds o l (bindS o n s)
    have h2 := tot_bind o n s
    show tot (bindsS o l (bindS o n s)) ≤ _
    rw [List.length_cons]; omega
theorem tot_meet (nm : ByteArray) (s : WS) : tot (meetS nm s) = tot s + 1 := by
  unfold meetS
  cases s.named nm.data.toList <;> simp [tot] <;> omega
theorem unb_tot : ∀ (L : List Nat) (s : WS), tot (L.foldl unb1 s) = tot s + L.length ∧ (L.foldl unb1 s).scope = s.scope
  | [], s => ⟨rfl, rfl⟩
  | i :: L, s => by
    obtain ⟨h1, h2⟩ := unb_tot L (unb1 s i)
    refine ⟨?_, h2⟩
    rw [List.foldl_cons, h1, List.length_cons]
    show s.met + (s.puts + 1) + s.bs.length + s.asked.length + s.scope.length + s.parts.length + s.lam + _ = _
    unfold tot; omega
theorem tot_unbind (o : Nat) (s : WS) : tot (unbindS o s) ≤ tot s := by
  obtain ⟨h1, h2⟩ := unb_tot (s.scope.drop o) s
  have h3 : tot (unbindS o s) + ((s.scope.drop o).foldl unb1 s).scope.length = tot ((s.scope.drop o).foldl unb1 s) + (((s.scope.drop o).foldl unb1 s).scope.take o).length := by
    unfold unbindS tot; simp; omega
  rw [h2, h1] at h3
  have h4 : (s.scope.take o).length + (s.scope.drop o).length = s.scope.length := by rw [← List.length_append, List.take_append_drop]
  omega
theorem tot_push (k : Int) (s : WS) : tot (pushS k s) ≤ tot s + 2 := by
  unfold tot pushS; simp only [List.length_cons]; split <;> omega
theorem tot_pop (k : Int) (s : WS) : tot (popS k s) ≤ tot s := by
  unfold tot popS; simp only [List.length_tail]; split <;> omega
theorem tot_alts (s : WS) : tot (setAlts s) = tot s := by
  unfold setAlts tot
  split
  · rfl
  · rename_i q r h; simp [h]
theorem tot_inSc (ns : List ByteArray) {f : WS → WS} {w : Nat} (h : ∀ s, tot (f s) ≤ tot s + w) (s : WS) : tot (inSc ns f s) ≤ tot s + (4 * ns.length + w) := by
  have h1 := tot_unbind s.scope.length (f (bindsS s.scope.length ns s))
  have h2 := h (bindsS s.scope.length ns s)
  have h3 := tot_binds s.scope.length ns s
  unfold inSc; omega
theorem tot_fold {α : Type} (g : α → WS → WS) (w : α → Nat) : ∀ (l : List α) (s : WS), (∀ a ∈ l, ∀ s, tot (g a s) ≤ tot s + w a) → tot (l.foldl (fun s a => g a s) s) ≤ tot s + (l.map w).sum
  | [], s, _ => by simp
  | a :: l, s, h => by
    have h1 := tot_fold g w l (g a s) (fun b hb => h b (List.mem_cons_of_mem _ hb))
    have h2 := h a List.mem_cons_self s
    rw [List.foldl_cons, List.map_cons, List.sum_cons]; omega
/-- How much an expression adds at most. -/
def wM (d : Nat) (t : Tr d) : Nat := 4 * (costM d t + sizeM d t)
theorem sum_four {α : Type} {f g : α → Nat} : ∀ {l : List α}, (l.map (fun x => 4 * (f x + g x))).sum = 4 * ((l.map f).sum + (l.map g).sum)
  | [] => rfl
  | x :: l => by rw [List.map_cons, List.map_cons, List.map_cons, List.sum_cons, List.sum_cons, List.sum_cons, sum_four]; omega
theorem sum_addV {α : Type} {f g : α → Nat} : ∀ {l : List α}, (l.map (fun x => f x + g x)).sum = (l.map f).sum + (l.map g).sum
  | [] => rfl
  | x :: l => by rw [List.map_cons, List.map_cons, List.map_cons, List.sum_cons, List.sum_cons, List.sum_cons, sum_addV]; omega
theorem tot_var {d : Nat} (t : Tr (d + 1)) (s : WS) : tot (varS t s) ≤ tot s + 1 := by
  unfold varS; split
  · exact Nat.le_of_eq (tot_meet _ _)
  · omega
theorem wM_succ {d : Nat} (t : Tr (d + 1)) : wM (d + 1) t = 4 * (bndM t).length + 4 + ((TrN.binds t).map (fun b => wM d b.2)).sum + ((TrN.args t).map (wM d)).sum + ((TrN.alts t).map (fun a => 4 * a.1.vars.length + wM d a.2)).sum := by
  have e1 : ((TrN.binds t).map (fun b => wM d b.2)).sum = 4 * (((TrN.binds t).map (fun b => costM d b.2)).sum + ((TrN.binds t).map (fun b => sizeM d b.2)).sum) := sum_four
  have e2 : ((TrN.args t).map (wM d)).sum = 4 * (((TrN.args t).map (fun e => costM d e)).sum + ((TrN.args t).map (sizeM d)).sum) := sum_four
  have e3 : ((TrN.alts t).map (fun a => 4 * a.1.vars.length + wM d a.2)).sum = 4 * (((TrN.alts t).map (fun a => a.1.vars.length + costM d a.2)).sum + ((TrN.alts t).map (fun a => sizeM d a.2)).sum) := by
    rw [← sum_four]; congr 1; refine List.map_congr_left (fun a _ => ?_); unfold wM; omega
  rw [e1, e2, e3]
  show 4 * ((bndM t).length + _ + _ + _ + (1 + _ + _ + _)) = _
  omega
theorem tot_body {d : Nat} (t : Tr (d + 1)) {f : Tr d → WS → WS} (h : ∀ e s, tot (f e s) ≤ tot s + wM d e) (s : WS) : tot (bodyS f t s) ≤ tot s + (1 + ((TrN.binds t).map (fun b => wM d b.2)).sum + ((TrN.args t).map (wM d)).sum + ((TrN.alts t).map (fun a => 4 * a.1.vars.length + wM d a.2)).sum) := by
  have h0 := tot_var t s
  obtain ⟨s1, e1⟩ : ∃ s1, varS t s = s1 := ⟨_, rfl⟩
  obtain ⟨s2, e2⟩ : ∃ s2, (TrN.binds t).foldl (fun s b => f b.2 s) s1 = s2 := ⟨_, rfl⟩
  obtain ⟨s3, e3⟩ : ∃ s3, (TrN.args t).foldl (fun s e => f e s) s2 = s3 := ⟨_, rfl⟩
  have h1 : tot s2 ≤ tot s1 + ((TrN.binds t).map (fun b => wM d b.2)).sum := by
    rw [← e2]; exact tot_fold (fun (b : ByteArray × Tr d) => f b.2) (fun b => wM d b.2) (TrN.binds t) s1 (fun b _ s => h b.2 s)
  have h2 : tot s3 ≤ tot s2 + ((TrN.args t).map (wM d)).sum := by
    rw [← e3]; exact tot_fold (fun (e : Tr d) => f e) (wM d) (TrN.args t) s2 (fun e _ s => h e s)
  have h3 : tot ((TrN.alts t).foldl (fun s a => inSc a.1.vars (f a.2) s) (setAlts s3)) ≤ tot (setAlts s3) + ((TrN.alts t).map (fun a => 4 * a.1.vars.length + wM d a.2)).sum :=
    tot_fold (fun (a : AltH × Tr d) => inSc a.1.vars (f a.2)) (fun a => 4 * a.1.vars.length + wM d a.2) (TrN.alts t) (setAlts s3) (fun a _ s => tot_inSc a.1.vars (fun s => h a.2 s) s)
  rw [tot_alts] at h3
  have eb : bodyS f t s = (TrN.alts t).foldl (fun s a => inSc a.1.vars (f a.2) s) (setAlts s3) := by unfold bodyS; rw [e1, e2, e3]
  rw [eb]
  rw [e1] at h0
  omega
theorem tot_expr : ∀ (d : Nat) (t : Tr d) (s : WS), tot (exprS d t s) ≤ tot s + wM d t
  | 0, t, _ => nomatch t
  | d + 1, t, s => by
    have h1 := tot_pop (TrN.kind t) (inSc (bndM t) (bodyS (exprS d) t) (pushS (TrN.kind t) s))
    have h2 := tot_inSc (bndM t) (fun s => tot_body t (fun e s => tot_expr d e s) s) (pushS (TrN.kind t) s)
    have h3 := tot_push (TrN.kind t) s
    have h4 := wM_succ t
    show tot (popS _ _) ≤ _
    omega
end Go.Proofs.YtjmpjfggbhongaaDoor
