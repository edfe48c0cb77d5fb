/-
  A walk in memory (stage 16): an expression, by a contract.
-/
import Derived.Test.YtjmpjfggbhongaaDoorUl
namespace Go.Proofs.YtjmpjfggbhongaaDoor
open Go.RowKit Go.Shelf Go.Maps
set_option linter.unusedVariables false

theorem fold_snoc {α : Type} (g : α → WS → WS) (l : List α) (k : Nat) (h : k < l.length) (s : WS) : (l.take (k + 1)).foldl (fun s a => g a s) s = g l[k] ((l.take k).foldl (fun s a => g a s) s) := by
  rw [List.take_succ_eq_append_getElem h, List.foldl_append]; rfl
theorem binds_kept {d : Nat} (t : Tr (d + 1)) (lb : List (ByteArray × Tr d)) (la : List (Tr d)) {s : WS} (hw : Wf s) (hp : pre1 s.parts s.met) :
    Wf (la.foldl (fun s e => exprS d e s) (lb.foldl (fun s b => exprS d b.2 s) (varS t s))) ∧ (la.foldl (fun s e => exprS d e s) (lb.foldl (fun s b => exprS d b.2 s) (varS t s))).parts = s.parts ∧ Kept s (la.foldl (fun s e => exprS d e s) (lb.foldl (fun s b => exprS d b.2 s) (varS t s))) := by
  have H1 := Chd.fold1 (fun e => exprS d e) (fun e => ofM d e) (fun e => cntN d e) (allOc d) la (Chd.fold1 (fun (b : ByteArray × Tr d) => exprS d b.2) (fun b => ofM d b.2) (fun b => cntN d b.2) (fun b => allOc d b.2) lb (chd_var t) (fun b _ => (exprS_chd d b.2).to1)) (fun e _ => (exprS_chd d e).to1)
  obtain ⟨p1, k1, u1, a1⟩ := H1.2 s hw hp
  exact ⟨hw.step (by rw [show (la.foldl (fun s e => exprS d e s) (lb.foldl (fun s b => exprS d b.2 s) (varS t s))).parts = s.parts from p1]) k1 H1.1 u1, p1, k1⟩
theorem tot_binds16 {d : Nat} (t : Tr (d + 1)) (lb : List (ByteArray × Tr d)) (la : List (Tr d)) (s : WS) : tot (la.foldl (fun s e => exprS d e s) (lb.foldl (fun s b => exprS d b.2 s) (varS t s))) ≤ tot s + 1 + (lb.map (fun b => wM d b.2)).sum + (la.map (wM d)).sum := by
  have h0 := tot_var t s
  have h1 : tot (lb.foldl (fun s b => exprS d b.2 s) (varS t s)) ≤ tot (varS t s) + (lb.map (fun b => wM d b.2)).sum := tot_fold (fun (b : ByteArray × Tr d) => exprS d b.2) (fun b => wM d b.2) lb (varS t s) (fun b _ s => tot_expr d b.2 s)
  have h2 : tot (la.foldl (fun s e => exprS d e s) (lb.foldl (fun s b => exprS d b.2 s) (varS t s))) ≤ tot (lb.foldl (fun s b => exprS d b.2 s) (varS t s)) + (la.map (wM d)).sum := tot_fold (fun (e : Tr d) => exprS d e) (wM d) la _ (fun e _ s => tot_expr d e s)
  omega
theorem wM_pos : ∀ (d : Nat) (t : Tr d), 1 ≤ wM d t
  | 0, t => nomatch t
  | d + 1, t => by rw [wM_succ]; omega
theorem len_le_sum {α : Type} (f : α → Nat) : ∀ (l : List α), (∀ x ∈ l, 1 ≤ f x) → l.length ≤ (l.map f).sum
  | [], _ => Nat.le_refl _
  | x :: l, h => by
    have h1 := h x List.mem_cons_self
    have h2 := len_le_sum f l (fun y hy => h y (List.mem_cons_of_mem _ hy))
    rw [List.length_cons, List.map_cons, List.sum_cons]; omega
/-- What is done with an expression, call by call, once it has been gone into. -/
structure ExStep (d : Nat) (t : Tr (d + 1)) (F P g off ns : Nat) (o4 o5 o6 : Option Addr) (k4 k5 k6 : Nat) (s1 : WS) (fin : WS) (w : World) : Prop where
  meet : ∀ W, Below F w W → WkAt W F P s1 → TrN.kind t = 1 → Calls Tryd.prog 48 #[.pointer (some ⟨P, 0, none⟩), .string (TrN.name t)] W fun e w' => e = .returned (.tuple #[]) ∧ WkAt w' F P (varS t s1) ∧ Below F w w'
  bnd : ∀ W k (hk : k < (TrN.binds t).length), Below F w W → WkAt W F P (((TrN.binds t).take k).foldl (fun s b => exprS d b.2 s) (varS t s1)) → ∃ g4 off4, o4 = some ⟨g4, off4, none⟩ ∧ g4 < w.heap.size ∧ Calls Tryd.prog 31 #[.pointer (some ⟨P, 0, none⟩), .pointer (some ⟨g4, off4 + k * 8 + 1, none⟩)] W fun e w' => e = .returned (.tuple #[]) ∧ WkAt w' F P (((TrN.binds t).take (k + 1)).foldl (fun s b => exprS d b.2 s) (varS t s1)) ∧ Below F w w'
  arg : ∀ W k (hk : k < (TrN.args t).length), Below F w W → WkAt W F P (((TrN.args t).take k).foldl (fun s e => exprS d e s) ((TrN.binds t).foldl (fun s b => exprS d b.2 s) (varS t s1))) → ∃ g5 off5, o5 = some ⟨g5, off5, none⟩ ∧ g5 < w.heap.size ∧ Calls Tryd.prog 31 #[.pointer (some ⟨P, 0, none⟩), .pointer (some ⟨g5, off5 + k * 7, none⟩)] W fun e w' => e = .returned (.tuple #[]) ∧ WkAt w' F P (((TrN.args t).take (k + 1)).foldl (fun s e => exprS d e s) ((TrN.binds t).foldl (fun s b => exprS d b.2 s) (varS t s1))) ∧ Below F w w'
  rest : ∀ W, Below F w W → WkAt W F P ((TrN.args t).foldl (fun s e => exprS d e s) ((TrN.binds t).foldl (fun s b => exprS d b.2 s) (varS t s1))) → Calls Tryd.prog 49 #[.pointer (some ⟨P, 0, none⟩), .slice o6 (TrN.alts t).length k6] W fun e w1 => e = .returned (.tuple #[]) ∧ Below F w w1 ∧
    Calls Tryd.prog 50 #[.pointer (some ⟨P, 0, none⟩), .int .i64 (ns : Int)] w1 fun e w2 => e = .returned (.tuple #[]) ∧ Below F w w2 ∧
      Calls Tryd.prog 51 #[.pointer (some ⟨P, 0, none⟩), .pointer (some ⟨g, off, none⟩)] w2 fun e w3 => e = .returned (.tuple #[]) ∧ WkAt w3 F P fin ∧ Below F w w3
theorem expr_steps {d : Nat} (ih : WkOK d) (t : Tr (d + 1)) (F P B g off : Nat) (s : WS) (w : World) (hE : ExAt w B (d + 1) t g off) (hB : B ≤ F) (hFw : F ≤ w.heap.size) (hN : NmOK (d + 1) t) (hw : Wf s) (hp : s.parts = [] → s.met = 0) (hG : GT16 w) (hF : 2 ≤ F) (ht : tot s + wM (d + 1) t ≤ 3000000) :
    ∃ o4 k4 o5 k5 o6 k6, w.cell? ⟨g, off, none⟩ = some (.int .i64 (TrN.kind t)) ∧ w.cell? ⟨g, off + 1, none⟩ = some (.string (TrN.name t)) ∧ w.cell? ⟨g, off + 4, none⟩ = some (.slice o4 (TrN.binds t).length k4) ∧ w.cell? ⟨g, off + 5, none⟩ = some (.slice o5 (TrN.args t).length k5) ∧ w.cell? ⟨g, off + 6, none⟩ = some (.slice o6 (TrN.alts t).length k6) ∧ g < F ∧
      ExStep d t F P g off s.scope.length o4 o5 o6 k4 k5 k6 (bindsS s.scope.length (bndM t) (pushS (TrN.kind t) s)) (exprS (d + 1) t s) w ∧ (TrN.binds t).length ≤ 3000000 ∧ (TrN.args t).length ≤ 3000000 ∧ (TrN.alts t).length ≤ 3000000 := by
  have hE0 := hE
  obtain ⟨hg, e0, e1, -, ⟨o3, k3, e3, t3⟩, ⟨o4, k4, e4, t4⟩, ⟨o5, k5, e5, t5⟩, ⟨o6, k6, e6, t6⟩⟩ := hE
  obtain ⟨n0, n1, n2, n3, n4⟩ := hN
  have hwp := wf_push (TrN.kind t) hw hp
  obtain ⟨s1, hs1⟩ : ∃ s1, bindsS s.scope.length (bndM t) (pushS (TrN.kind t) s) = s1 := ⟨_, rfl⟩
  obtain ⟨ns1, hb⟩ : ∃ ns1, Bnds (pushS (TrN.kind t) s) s1 (bndM t) ns1 := by rw [← hs1]; exact bnds_all hwp (bndM t)
  have hw1 := hb.wf hwp
  have hparts : s1.parts = (s.met, none) :: s.parts := hb.parts
  have hp1 : pre1 s1.parts s1.met := ⟨s.met, s.parts, hparts⟩
  have hpB : preB s1.parts s1.met := ⟨s.parts, by rw [hparts, hb.met]; rfl⟩
  have hscope : s.scope.length ≤ s1.scope.length := by rw [hb.scope, List.length_append]; exact Nat.le_add_right _ _
  have t1 : tot s1 ≤ tot s + 2 + 4 * (bndM t).length := by
    have h1 := tot_binds s.scope.length (bndM t) (pushS (TrN.kind t) s)
    have h2 := tot_push (TrN.kind t) s
    rw [hs1] at h1; omega
  have hM := wM_succ t
  have lenB : (TrN.binds t).length ≤ (bndM t).length := by simp [bndM]
  have lenA : (TrN.args t).length ≤ ((TrN.args t).map (wM d)).sum := len_le_sum _ _ (fun x _ => wM_pos d x)
  have lenL : (TrN.alts t).length ≤ ((TrN.alts t).map (fun a => 4 * a.1.vars.length + wM d a.2)).sum := len_le_sum _ _ (fun x _ => by have := wM_pos d x.2; omega)
  have hsame : ∀ W : World, Below F w W → ∀ g off, g < B → W.cell? ⟨g, off, none⟩ = w.cell? ⟨g, off, none⟩ := fun W hW g off hg => hW.cell (p := ⟨g, off, none⟩) (by show g < F; omega)
  rw [hs1]
  refine ⟨o4, k4, o5, k5, o6, k6, e0, e1, e4, e5, e6, by omega, ⟨fun W hW hWk hk => ?_, fun W k hk hW hWk => ?_, fun W k hk hW hWk => ?_, fun W hW hWk => ?_⟩, by omega, by omega, by omega⟩
  · have e : varS t s1 = meetS (TrN.name t) s1 := by unfold varS; rw [if_pos hk]
    rw [e]
    refine (wkMeet_c F P s1 (TrN.name t) n0 W hWk hw1 (by rw [hparts]; exact List.cons_ne_nil _ _) (hG.below hF hW) hF (by omega)).mono ?_
    rintro e w' ⟨rfl, q1, q2⟩
    exact ⟨rfl, q1, hW.trans q2⟩
  · rcases t4 with h9 | ⟨g4, off4, eo, hg4, h9⟩
    · rw [h9] at hk; cases hk
    · obtain ⟨-, q5⟩ := h9 k hk
      obtain ⟨hwk, hpk, hkk⟩ := binds_kept t ((TrN.binds t).take k) [] hw1 hp1
      have b1 := tot_binds16 t ((TrN.binds t).take k) [] s1
      have b2 := take_sum (fun b : ByteArray × Tr d => wM d b.2) (TrN.binds t) k hk
      have b3 := take_le (fun b : ByteArray × Tr d => wM d b.2) (TrN.binds t) (k + 1)
      refine ⟨g4, off4, eo, by omega, ?_⟩
      rw [fold_snoc (fun (b : ByteArray × Tr d) => exprS d b.2) (TrN.binds t) k hk]
      refine (ih _ F P B g4 (off4 + k * 8 + 1) _ W hWk (ExAt.same (hsame W hW) d _ _ _ q5) hB (n2 _ (List.getElem_mem hk)) hwk (fun e => by rw [show (((TrN.binds t).take k).foldl (fun s b => exprS d b.2 s) (varS t s1)).parts = s1.parts from hpk, hparts] at e; cases e) (hG.below hF hW) hF ?_).mono ?_
      · have b4 : tot (((TrN.binds t).take k).foldl (fun s b => exprS d b.2 s) (varS t s1)) ≤ tot s1 + 1 + (((TrN.binds t).take k).map (fun b => wM d b.2)).sum := by simpa using b1
        omega
      · rintro e w' ⟨rfl, q1, q2⟩
        exact ⟨rfl, q1, hW.trans q2⟩
  · rcases t5 with h9 | ⟨g5, off5, eo, hg5, h9⟩
    · rw [h9] at hk; cases hk
    · have q5 := h9 k hk
      obtain ⟨hwk, hpk, hkk⟩ := binds_kept t (TrN.binds t) ((TrN.args t).take k) hw1 hp1
      have b1 := tot_binds16 t (TrN.binds t) ((TrN.args t).take k) s1
      have b2 := take_sum (wM d) (TrN.args t) k hk
      have b3 := take_le (wM d) (TrN.args t) (k + 1)
      refine ⟨g5, off5, eo, by omega, ?_⟩
      rw [fold_snoc (fun (e : Tr d) => exprS d e) (TrN.args t) k hk]
      refine (ih _ F P B g5 (off5 + k * 7) _ W hWk (ExAt.same (hsame W hW) d _ _ _ q5) hB (n3 _ (List.getElem_mem hk)) hwk (fun e => by rw [hpk, hparts] at e; cases e) (hG.below hF hW) hF (by omega)).mono ?_
      rintro e w' ⟨rfl, q1, q2⟩
      exact ⟨rfl, q1, hW.trans q2⟩
  · obtain ⟨hwk, hpk, hkk⟩ := binds_kept t (TrN.binds t) (TrN.args t) hw1 hp1
    have b1 := tot_binds16 t (TrN.binds t) (TrN.args t) s1
    have hBody := (chd_body t (f := exprS d) (r := ofM d) (c := cntN d) (L := allOc d) (fun e => exprS_chd d e)).2 s1 hw1 hpB
    have tB := tot_body t (f := exprS d) (fun e s => tot_expr d e s) s1
    obtain ⟨s5, hs5⟩ : ∃ s5, bodyS (exprS d) t s1 = s5 := ⟨_, rfl⟩
    rw [hs5] at hBody tB
    obtain ⟨⟨m, mA, PP, q1, q2⟩, k5', -, -⟩ := hBody
    refine (wkAlts_c d ih (TrN.alts t) o6 k6 F P B _ W hWk ?_ hB (fun a ha => n4 a ha) hwk s.met s.parts (by rw [hpk, hparts]) (hG.below hF hW) hF (by omega) (by omega)).mono ?_
    · refine t6.mono ?_
      rintro x g off hg ⟨z1, z2, z3, ⟨o, c, z4, z5⟩, z6⟩
      exact ⟨(hsame W hW _ _ hg).trans z1, (hsame W hW _ _ hg).trans z2, (hsame W hW _ _ hg).trans z3, ⟨o, c, (hsame W hW _ _ hg).trans z4, z5.same (hsame W hW)⟩, ExAt.same (hsame W hW) d _ _ _ z6⟩
    rintro e w1 ⟨rfl, h1, b1'⟩
    refine ⟨rfl, hW.trans b1', ?_⟩
    have h1' : WkAt w1 F P s5 := by rw [← hs5]; exact h1
    refine (wkUnbind_c F P s5 s.scope.length w1 h1' (by omega) (by rw [k5'.scope]; exact hscope)).mono ?_
    rintro e w2 ⟨rfl, h2, b2'⟩
    refine ⟨rfl, (hW.trans b1').trans b2', ?_⟩
    obtain ⟨u1, u2, -⟩ := unb_parts (s5.scope.drop s.scope.length) s5
    have tU := tot_unbind s.scope.length s5
    have hwb := (hW.trans b1').trans b2'
    refine (wkLeave_c F P B d t g off (unbindS s.scope.length s5) w2 h2 (ExAt.same (hsame w2 hwb) (d + 1) _ _ _ hE0) hB ?_ ?_ (by omega)).mono ?_
    · show 1 ≤ ((s5.scope.drop s.scope.length).foldl unb1 s5).parts.length
      rw [u1, q2]; simp
    · intro hk
      show 1 ≤ ((s5.scope.drop s.scope.length).foldl unb1 s5).lam
      rw [u2, k5'.lam, hb.lam]
      show 1 ≤ (if TrN.kind t = 5 then s.lam + 1 else s.lam)
      rw [if_pos hk]; omega
    · rintro e w3 ⟨rfl, h3, b3⟩
      refine ⟨rfl, ?_, hwb.trans b3⟩
      have e : exprS (d + 1) t s = popS (TrN.kind t) (unbindS s.scope.length s5) := by
        rw [← hs5, ← hs1]; rfl
      rw [e]; exact h3
end Go.Proofs.YtjmpjfggbhongaaDoor
