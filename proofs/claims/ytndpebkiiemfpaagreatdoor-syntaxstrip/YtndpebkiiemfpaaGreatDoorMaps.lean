/-
  What is reserved, by contracts.
-/
import Derived.Maps.OwnSet
import Derived.Maps.OwnOps
import Derived.Test.YtndpebkiiemfpaaGreatDoorBehind
namespace Go.Proofs.YtndpebkiiemfpaaGreatDoor
open Go.RowKit Go.Shelf Go.Maps
set_option linter.unusedVariables false

/-- A set of texts, as data. -/
def Dof (L : List (List UInt8)) : DataW Unit := L.foldl (fun D k => D.put (.string k) (.agg [])) (.map [])

theorem has_fold : ∀ (L : List (List UInt8)) (D : DataW Unit) (x : List UInt8), Maps.IsMap D → Maps.has (L.foldl (fun D k => D.put (.string k) (.agg [])) D) (.string x) = (Maps.has D (.string x) || L.contains x)
  | [], D, x, _ => by simp
  | k :: L, D, x, hD => by
    have hD' : Maps.IsMap (D.put (.string k) (.agg [])) := by
      obtain ⟨es, rfl⟩ := hD
      exact ⟨_, rfl⟩
    rw [List.foldl_cons, has_fold L _ x hD', List.contains_cons]
    by_cases h : x = k
    · subst h
      rw [Maps.has_put_same hD (by constructor) (.agg [])]; simp
    · rw [Maps.has_put_other (by simpa using h) (.agg [])]
      have : (x == k) = false := by simpa using h
      rw [this, Bool.false_or]
theorem has_Dof (L : List (List UInt8)) (x : List UInt8) : Maps.has (Dof L) (.string x) = L.contains x := by
  unfold Dof
  rw [has_fold L _ x ⟨_, rfl⟩]
  rfl

theorem key_str (s : ByteArray) (h : s.size ≤ maxLen) : keyOf Tryz.prog 9 (.string s) = some (.string s.data.toList) := by
  simp [keyOf, mapKey, Tryz.underlying9, h]

theorem wpList_makeMap' {P : Program} (w : World) {ops : Array Oper} {rest : List Oper} {o : Oper} {a : Act} {Q : Exit → Act → World → Prop} (hg : o.guard = none) (t : TypeId) (hop : o.op = Op.makeMap t none)
    (hK : wpList P ops Q rest (a.put o.dst (.map (some w.heap.size))) (w.alloc (.map #[] 0))) : wpList P ops Q (o :: rest) a w := by
  refine wpList_plain hg fun K' hK' => ?_
  unfold Oper.wp
  simp [execOp, hop, run_makeMap, Result.andThen]
  exact hK' _ _ hK
theorem wpList_insert_own {H : Type} {P : Program} (w : World) {ops : Array Oper} {rest : List Oper} {o : Oper} {a : Act} {Q : Exit → Act → World → Prop}
    (hg : o.guard = none) (m x v : Operand) (t : TypeId) (hop : o.op = Op.insert t m x v)
    (k e : TypeId) (K : Keyed P k) (ht : P.underlying t = some (.map k e)) (R : Value → Option (DataW H × List MemPlace)) (b n : Nat) (D : DataW H)
    (hm : a.eval m = .map (some b)) (hown : w.ownsMap P k R b n D) (hn : n < maxLen) (key val : Value) (kl : Lit) (hx : a.eval x = key) (hv : a.eval v = val) (hkey : keyOf P k key = some kl)
    (d : DataW H) (ps : List MemPlace) (hval : R val = some (d, ps))
    (hK : ∀ w', w'.ownsMap P k R b (n + 1) (D.put kl d) → w.grownBy w' (some b) → wpList P ops Q rest (a.put o.dst undef) w') :
    wpList P ops Q (o :: rest) a w := by
  refine wpList_plain hg fun K' hK' => ?_
  obtain ⟨w', hrun, r1, r2⟩ := hown.update K ht hn hkey hval
  unfold Oper.wp
  simp [execOp, hop, hm, hx, hv, hrun, Result.andThen]
  exact hK' _ _ (hK w' r1 r2)

/-- A set of texts in memory. -/
def SetAt (W : World) (b : Nat) (L : List (List UInt8)) : Prop := ∃ n, n ≤ 100 ∧ W.ownsMap Tryz.prog 9 unitElem b n (Dof L)
theorem map_below {w w' : World} {b n : Nat} {D : DataW Unit} (h : w.ownsMap Tryz.prog 9 unitElem b n D) (hb : Below w.heap.size w w') : w'.ownsMap Tryz.prog 9 unitElem b n D := by
  have hlt := h.lt
  obtain ⟨es, clock, h1, h2⟩ := h
  exact ⟨es, clock, by rw [hb.block b hlt]; exact h1, h2⟩
theorem set_below {w w' : World} {b : Nat} {L : List (List UInt8)} (h : SetAt w b L) (hb : Below w.heap.size w w') : SetAt w' b L := by
  obtain ⟨n, hn, h⟩ := h
  exact ⟨n, hn, map_below h hb⟩
theorem SetAt.lt {w : World} {b : Nat} {L : List (List UInt8)} (h : SetAt w b L) : b < w.heap.size := by
  obtain ⟨n, hn, h⟩ := h
  exact h.lt

set_option maxHeartbeats 4000000 in
set_option maxRecDepth 100000 in
theorem signs_c (w : World) : Calls Tryz.prog 30 #[] w fun e W' => ∃ b, e = .returned (.map (some b)) ∧ Hid (SetAt W' b M.signL) ∧ Below w.heap.size w W' := by
  go_enter Tryz.func30, Tryz.ntmps30
  go_wp2_with (first
    | (refine wpList_makeMap' _ rfl _ rfl ?_; have hown := World.ownsMap_made w Tryz.prog 9 (unitElem (H := Unit)); have hB : Below w.heap.size w (w.alloc (.map #[] 0)) := (Below.refl _ w).alloc (Nat.le_refl _) _)
    | (refine wpList_insert_own _ rfl _ _ _ _ rfl 9 86 (string_keyed Tryz.underlying9) Tryz.underlying67 unitElem w.heap.size _ _ rfl hown (by decide) _ _ _ rfl rfl (key_str _ (by decide)) (.agg []) [] unitElem_mk ?_; intro w1 hown1 hgrow1; clear hown; have hown := hown1; clear hown1; replace hB := hB.grown hgrow1 hB.size (fun k hk => by cases hk; exact Nat.le_refl _); clear hgrow1))
  go_ret
  exact ⟨w.heap.size, rfl, ⟨_, by decide, hown⟩, hB⟩

set_option maxHeartbeats 4000000 in
set_option maxRecDepth 100000 in
theorem words_c (w : World) : Calls Tryz.prog 29 #[] w fun e W' => ∃ b, e = .returned (.map (some b)) ∧ Hid (SetAt W' b M.wordL) ∧ Below w.heap.size w W' := by
  go_enter Tryz.func29, Tryz.ntmps29
  go_wp2_with (first
    | (refine wpList_makeMap' _ rfl _ rfl ?_; have hown := World.ownsMap_made w Tryz.prog 9 (unitElem (H := Unit)); have hB : Below w.heap.size w (w.alloc (.map #[] 0)) := (Below.refl _ w).alloc (Nat.le_refl _) _)
    | (refine wpList_insert_own _ rfl _ _ _ _ rfl 9 86 (string_keyed Tryz.underlying9) Tryz.underlying67 unitElem w.heap.size _ _ rfl hown (by decide) _ _ _ rfl rfl (key_str _ (by decide)) (.agg []) [] unitElem_mk ?_; intro w1 hown1 hgrow1; clear hown; have hown := hown1; clear hown1; replace hB := hB.grown hgrow1 hB.size (fun k hk => by cases hk; exact Nat.le_refl _); clear hgrow1))
  go_ret
  exact ⟨w.heap.size, rfl, ⟨_, by decide, hown⟩, hB⟩

end Go.Proofs.YtndpebkiiemfpaaGreatDoor
