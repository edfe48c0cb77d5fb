/-
  May a node be: the mathematics, and the map of patterns as it is asked.
-/
import Derived.Test.YtndpebkiiemfpaaGreatDoorNf
import Derived.Test.YtndpebkiiemfpaaGreatDoorKp
import Derived.Test.YtndpebkiiemfpaaGreatDoorHolds
namespace Go.Proofs.YtndpebkiiemfpaaGreatDoor
open Go.RowKit Go.Shelf Go.Maps
set_option linter.unusedVariables false
variable {b0 : Nat}

/-- Is a node itself as its kind asks? -/
def ownM (n : Nd) : Bool := match kp n.kind with
  | none => false
  | some ps => nameM n.kind (bs n.name) n.kids.length && numM n.kind n.num && fitsB ps (kinds n.kids)
/-- May a tree be, down to some depth? -/
def mbM : Nat → Nd → Bool
  | 0, _ => false
  | d + 1, n => ownM n && n.kids.all (mbM d)
def cntT : Nat → Nd → Nat
  | 0, _ => 0
  | d + 1, n => 1 + (n.kids.map (cntT d)).sum
def deepLe : Nat → Nd → Prop
  | 0, _ => False
  | d + 1, n => ∀ k ∈ n.kids, deepLe d k
theorem hK_all (d : Nat) (ih : ∀ (m : Nat) (n : Nd), (hN d m n).1 = true → deepLe d n ∧ cntT d n + (hN d m n).2 = m) : ∀ (l : List Nd) (m : Nat), (hK (hN d) m l).1 = true → (∀ k ∈ l, deepLe d k) ∧ (l.map (cntT d)).sum + (hK (hN d) m l).2 = m
  | [], m, _ => ⟨fun k hk => (by cases hk), by simp [hK]⟩
  | n :: ns, m, h => by
    unfold hK at h ⊢
    by_cases h1 : (hN d m n).1 = true
    · rw [if_pos h1] at h ⊢
      have h2 := ih m n h1
      have h3 := hK_all d ih ns _ h
      refine ⟨fun k hk => ?_, ?_⟩
      · rcases List.mem_cons.1 hk with rfl | hk
        · exact h2.1
        · exact h3.1 k hk
      · rw [List.map_cons, List.sum_cons]; omega
    · rw [if_neg h1] at h; cases h
theorem hNall : ∀ (d m : Nat) (n : Nd), (hN d m n).1 = true → deepLe d n ∧ cntT d n + (hN d m n).2 = m
  | 0, m, n, h => by cases h
  | d + 1, m, n, h => by
    unfold hN at h ⊢
    by_cases h0 : m = 0
    · rw [if_pos h0] at h; cases h
    · rw [if_neg h0] at h ⊢
      have := hK_all d (hNall d) n.kids (m - 1) h
      exact ⟨this.1, by unfold cntT; omega⟩
theorem sum_take (f : Nd → Nat) : ∀ (l : List Nd) (k : Nat) (h : k < l.length), ((l.take (k + 1)).map f).sum = ((l.take k).map f).sum + f l[k]
  | l, k, h => by rw [List.take_succ_eq_append_getElem h, List.map_append, List.sum_append]; simp
theorem sum_take_le (f : Nd → Nat) (l : List Nd) (k : Nat) : ((l.take k).map f).sum ≤ (l.map f).sum := by
  have : l.map f = (l.take k).map f ++ (l.drop k).map f := by rw [← List.map_append, List.take_append_drop]
  rw [this, List.sum_append]; omega
theorem len_le_cnt (d : Nat) (l : List Nd) (h : ∀ k ∈ l, deepLe d k) : l.length ≤ (l.map (cntT d)).sum := by
  induction l with
  | nil => exact Nat.zero_le _
  | cons n ns ih =>
    have h1 := ih (fun k hk => h k (List.mem_cons_of_mem _ hk))
    have h2 : 1 ≤ cntT d n := by
      have h3 := h n (List.mem_cons_self)
      cases d with
      | zero => cases h3
      | succ d => unfold cntT; omega
    rw [List.map_cons, List.sum_cons, List.length_cons]; omega
theorem all_take (p : Nd → Bool) (l : List Nd) (k : Nat) (h : k < l.length) (ht : (l.take k).all p = true) : l.all p = (p l[k] && (l.drop (k + 1)).all p) := by
  have e : l = l.take k ++ l[k] :: l.drop (k + 1) := by rw [← List.drop_eq_getElem_cons h, List.take_append_drop]
  refine (congrArg (fun x => List.all x p) e).trans ?_
  show (List.take k l ++ l[k] :: List.drop (k + 1) l).all p = _
  rw [List.all_append, ht, List.all_cons]
  simp
theorem take_all_succ (p : Nd → Bool) (l : List Nd) (k : Nat) (h : k < l.length) : (l.take (k + 1)).all p = ((l.take k).all p && p l[k]) := by
  rw [List.take_succ_eq_append_getElem h, List.all_append]; simp

theorem lenOf {o : Option (List (List Int → Int))} {ps : List (List Int → Int)} {m : Nat} (h : o = some ps) (e : o.map List.length = some m) (hm : m ≤ 3) : ps.length ≤ 3 := by
  rw [h] at e; simp at e; omega
theorem kp_none (k : Int) (h : ∀ i : Nat, i < 44 → k ≠ (i : Int) + 1) : kp k = none := by
  have hk : k < 1 ∨ 44 < k := by
    by_cases h1 : k < 1
    · exact .inl h1
    · by_cases h2 : 44 < k
      · exact .inr h2
      · exact absurd (by omega) (h (k - 1).toNat (by omega))
  unfold kp
  repeat rw [if_neg (by omega)]
set_option maxRecDepth 100000 in
theorem kp_len (k : Int) (ps : List (List Int → Int)) (h : kp k = some ps) : ps.length ≤ 3 := by
  by_cases q1 : k = 1
  · subst q1; exact lenOf h rfl (by decide)
  by_cases q2 : k = 2
  · subst q2; exact lenOf h rfl (by decide)
  by_cases q3 : k = 3
  · subst q3; exact lenOf h rfl (by decide)
  by_cases q4 : k = 4
  · subst q4; exact lenOf h rfl (by decide)
  by_cases q5 : k = 5
  · subst q5; exact lenOf h rfl (by decide)
  by_cases q6 : k = 6
  · subst q6; exact lenOf h rfl (by decide)
  by_cases q7 : k = 7
  · subst q7; exact lenOf h rfl (by decide)
  by_cases q8 : k = 8
  · subst q8; exact lenOf h rfl (by decide)
  by_cases q9 : k = 9
  · subst q9; exact lenOf h rfl (by decide)
  by_cases q10 : k = 10
  · subst q10; exact lenOf h rfl (by decide)
  by_cases q11 : k = 11
  · subst q11; exact lenOf h rfl (by decide)
  by_cases q12 : k = 12
  · subst q12; exact lenOf h rfl (by decide)
  by_cases q13 : k = 13
  · subst q13; exact lenOf h rfl (by decide)
  by_cases q14 : k = 14
  · subst q14; exact lenOf h rfl (by decide)
  by_cases q15 : k = 15
  · subst q15; exact lenOf h rfl (by decide)
  by_cases q16 : k = 16
  · subst q16; exact lenOf h rfl (by decide)
  by_cases q17 : k = 17
  · subst q17; exact lenOf h rfl (by decide)
  by_cases q18 : k = 18
  · subst q18; exact lenOf h rfl (by decide)
  by_cases q19 : k = 19
  · subst q19; exact lenOf h rfl (by decide)
  by_cases q20 : k = 20
  · subst q20; exact lenOf h rfl (by decide)
  by_cases q21 : k = 21
  · subst q21; exact lenOf h rfl (by decide)
  by_cases q22 : k = 22
  · subst q22; exact lenOf h rfl (by decide)
  by_cases q23 : k = 23
  · subst q23; exact lenOf h rfl (by decide)
  by_cases q24 : k = 24
  · subst q24; exact lenOf h rfl (by decide)
  by_cases q25 : k = 25
  · subst q25; exact lenOf h rfl (by decide)
  by_cases q26 : k = 26
  · subst q26; exact lenOf h rfl (by decide)
  by_cases q27 : k = 27
  · subst q27; exact lenOf h rfl (by decide)
  by_cases q28 : k = 28
  · subst q28; exact lenOf h rfl (by decide)
  by_cases q29 : k = 29
  · subst q29; exact lenOf h rfl (by decide)
  by_cases q30 : k = 30
  · subst q30; exact lenOf h rfl (by decide)
  by_cases q31 : k = 31
  · subst q31; exact lenOf h rfl (by decide)
  by_cases q32 : k = 32
  · subst q32; exact lenOf h rfl (by decide)
  by_cases q33 : k = 33
  · subst q33; exact lenOf h rfl (by decide)
  by_cases q34 : k = 34
  · subst q34; exact lenOf h rfl (by decide)
  by_cases q35 : k = 35
  · subst q35; exact lenOf h rfl (by decide)
  by_cases q36 : k = 36
  · subst q36; exact lenOf h rfl (by decide)
  by_cases q37 : k = 37
  · subst q37; exact lenOf h rfl (by decide)
  by_cases q38 : k = 38
  · subst q38; exact lenOf h rfl (by decide)
  by_cases q39 : k = 39
  · subst q39; exact lenOf h rfl (by decide)
  by_cases q40 : k = 40
  · subst q40; exact lenOf h rfl (by decide)
  by_cases q41 : k = 41
  · subst q41; exact lenOf h rfl (by decide)
  by_cases q42 : k = 42
  · subst q42; exact lenOf h rfl (by decide)
  by_cases q43 : k = 43
  · subst q43; exact lenOf h rfl (by decide)
  by_cases q44 : k = 44
  · subst q44; exact lenOf h rfl (by decide)
  rw [kp_none k (fun i hi e => by omega)] at h
  cases h

/-- The map of kinds and patterns, whole. -/
def KM (b0 : Nat) (W : World) : Prop := ∃ L : List (Int × Value), L.map Prod.fst = (List.range 44).map (fun i : Nat => (i : Int) + 1) ∧ MapSt b0 W L
theorem KM.lt {W : World} (h : KM b0 W) : b0 < W.heap.size := by
  obtain ⟨L, h1, h2⟩ := h
  exact h2.1.lt
theorem KM.below {W W' : World} (h : KM b0 W) (hb : Below W.heap.size W W') : KM b0 W' := by
  obtain ⟨L, h1, h2⟩ := h
  exact ⟨L, h1, h2.below hb⟩
theorem KM.but {W W' : World} {bl : Nat} (h : KM b0 W) (hb : But bl W W') (hl : bl + 3 < b0) : KM b0 W' := by
  obtain ⟨L, h1, h2⟩ := h
  refine ⟨L, h1, ?_, fun p hp => ?_⟩
  · have hlt := h2.1.lt
    obtain ⟨es, clock, k1, k2⟩ := h2.1
    exact ⟨es, clock, by rw [hb.block b0 hlt (by omega)]; exact k1, k2⟩
  · obtain ⟨ps, o, cap, k1, k2, k3⟩ := h2.2 p hp
    exact ⟨ps, o, cap, k1, k2, k3.agr (agr_but hb hl)⟩
theorem km_of {w W : World} {vw vr vo : Value} (h : KS2 b0 w W vw vr vo 44) : KM b0 W := by
  obtain ⟨L, h1, h2⟩ := h
  exact ⟨L, h1, h2.2.2.2.2⟩
theorem zeroPats (w : World) : (zeroValue 122).run Tryz.prog w = .ok (.slice none 0 0) w := by kernel_rfl
theorem KM.look {W : World} (h : KM b0 W) (k : Int) (hk : -9223372036854775808 ≤ k ∧ k ≤ 9223372036854775807) :
    ∃ (v : Value) (b : Bool), (∀ X : World, X.heap = W.heap → (Instr.lookup 90 (.map (some b0)) (.int .i64 k) true).run Tryz.prog X = .ok (.tuple #[v, .bool b]) X) ∧ ((kp k = none ∧ b = false ∧ v = .slice none 0 0) ∨ ∃ ps o cap, kp k = some ps ∧ b = true ∧ v = .slice o ps.length cap ∧ PatsAt b0 W o ps) := by
  obtain ⟨L, h1, h2⟩ := h
  have hkey : keyOf Tryz.prog 3 (.int .i64 k) = some (.int .i64 k) := keyOf_int_mk Tryz.underlying3 (by simp [Lit.wf, IntKind.min, IntKind.max, IntKind.signed, IntKind.bits]; omega)
  have hrunAll : ∀ X : World, X.heap = W.heap → ∃ v ps, (Instr.lookup 90 (.map (some b0)) (.int .i64 k) true).run Tryz.prog X = .ok (.tuple #[v, .bool (Maps.has (Dkp L) (.int .i64 k))]) X ∧ heldElem v = some ((Dkp L).atKey (.int .i64 k) (.held (.slice none 0 0)), ps) := by
    intro X hX
    have hown : X.ownsMap Tryz.prog 3 heldElem b0 L.length (Dkp L) := by
      obtain ⟨es, clock, k1, k2⟩ := h2.1
      exact ⟨es, clock, by rw [hX]; exact k1, k2⟩
    exact hown.look_ok (int_keyed Tryz.underlying3) Tryz.underlying90 (zeroPats X) (zd := .held (.slice none 0 0)) (zp := []) rfl hkey
  rcases Dkp_look L k (.held (.slice none 0 0)) with ⟨v, hm, ha, hh⟩ | ⟨hm, ha, hh⟩
  · refine ⟨v, true, fun X hX => ?_, .inr ?_⟩
    · obtain ⟨v', ps, hr, hv⟩ := hrunAll X hX
      rw [ha] at hv
      rw [hh] at hr
      rw [heldElem_inv hv] at hr
      exact hr
    · obtain ⟨ps, o, cap, k1, k2, k3⟩ := h2.2 _ hm
      exact ⟨ps, o, cap, k1, rfl, k2, k3⟩
  · refine ⟨.slice none 0 0, false, fun X hX => ?_, .inl ⟨?_, rfl, rfl⟩⟩
    · obtain ⟨v', ps, hr, hv⟩ := hrunAll X hX
      rw [ha] at hv
      rw [hh] at hr
      rw [heldElem_inv hv] at hr
      exact hr
    · refine kp_none k (fun i hi e => ?_)
      have hmem : k ∈ L.map Prod.fst := by rw [h1, e]; exact List.mem_map.2 ⟨i, List.mem_range.2 hi, rfl⟩
      obtain ⟨p, hp, hpk⟩ := List.mem_map.1 hmem
      exact hm p hp hpk
end Go.Proofs.YtndpebkiiemfpaaGreatDoor
