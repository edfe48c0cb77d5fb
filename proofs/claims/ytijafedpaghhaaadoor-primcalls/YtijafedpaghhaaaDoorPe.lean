/-
  Package prim: the table, by a contract.
-/
import Derived.Test.YtijafedpaghhaaaDoorPd
namespace Go.Proofs.YtijafedpaghhaaaDoor
open Go.RowKit Go.Shelf Go.Maps
set_option linter.unusedVariables false

def heldElem (v : Value) : Option (DataW Value × List MemPlace) := some (.held v, [])
theorem heldElem_inv {v u : Value} {ps : List MemPlace} (h : heldElem v = some (.held u, ps)) : v = u := by
  simp [heldElem] at h; exact h.1
theorem key_str (s : ByteArray) (h : s.size ≤ maxLen) : keyOf Tryd.prog 9 (.string s) = some (.string s.data.toList) := by
  simp [keyOf, mapKey, Tryd.underlying9, h]
theorem wpList_makeMap' {P : Program} (w : World) {ops : Array Oper} {rest : List Oper} {o : Oper} {a : Act} {Q : Exit → Act → World → Prop} (hg : o.guard = none) (t : TypeId) (hop : o.op = Op.makeMap t none)
    (hK : wpList P ops Q rest (a.put o.dst (.map (some w.heap.size))) (w.alloc (.map #[] 0))) : wpList P ops Q (o :: rest) a w := by
  refine wpList_plain hg fun K' hK' => ?_
  unfold Oper.wp
  simp [execOp, hop, run_makeMap, Result.andThen]
  exact hK' _ _ hK
theorem wpList_insert_own {H : Type} {P : Program} (w : World) {ops : Array Oper} {rest : List Oper} {o : Oper} {a : Act} {Q : Exit → Act → World → Prop}
    (hg : o.guard = none) (m x v : Operand) (t : TypeId) (hop : o.op = Op.insert t m x v)
    (k e : TypeId) (K : Keyed P k) (ht : P.underlying t = some (.map k e)) (R : Value → Option (DataW H × List MemPlace)) (b n : Nat) (D : DataW H)
    (hm : a.eval m = .map (some b)) (hown : w.ownsMap P k R b n D) (hn : n < maxLen) (key val : Value) (kl : Lit) (hx : a.eval x = key) (hv : a.eval v = val) (hkey : keyOf P k key = some kl)
    (d : DataW H) (ps : List MemPlace) (hval : R val = some (d, ps))
    (hK : ∀ w', w'.ownsMap P k R b (n + 1) (D.put kl d) → w.grownBy w' (some b) → wpList P ops Q rest (a.put o.dst undef) w') :
    wpList P ops Q (o :: rest) a w := by
  refine wpList_plain hg fun K' hK' => ?_
  obtain ⟨w', hrun, r1, r2⟩ := hown.update K ht hn hkey hval
  unfold Oper.wp
  simp [execOp, hop, hm, hx, hv, hrun, Result.andThen]
  exact hK' _ _ (hK w' r1 r2)

/-- A map of names in memory: the first entry of a name counts. -/
def MapIs (W : World) (b c : Nat) (L : List (List UInt8 × Value)) : Prop := ∃ D : DataW Value, W.ownsMap Tryd.prog 9 heldElem b c D ∧ Maps.IsMap D ∧ ∀ x : List UInt8, Maps.has D (.string x) = (L.find? (fun p => p.1 == x)).isSome ∧ ∀ p z, L.find? (fun p => p.1 == x) = some p → D.atKey (.string x) z = .held p.2
theorem MapIs.lt {W : World} {b c : Nat} {L : List (List UInt8 × Value)} (h : MapIs W b c L) : b < W.heap.size := by
  obtain ⟨D, h1, _⟩ := h
  exact h1.lt
theorem MapIs.below {W W' : World} {b c : Nat} {L : List (List UInt8 × Value)} (h : MapIs W b c L) (hb : Below W.heap.size W W') : MapIs W' b c L := by
  have hlt := h.lt
  obtain ⟨D, h1, h2⟩ := h
  obtain ⟨es, clock, k1, k2⟩ := h1
  exact ⟨D, ⟨es, clock, by rw [hb.block b hlt]; exact k1, k2⟩, h2⟩
theorem mapIs_new (W : World) : MapIs (W.alloc (.map #[] 0)) W.heap.size 0 [] := ⟨.map [], World.ownsMap_made W Tryd.prog 9 heldElem, ⟨_, rfl⟩, fun x => ⟨rfl, fun f z h => by cases h⟩⟩
theorem MapIs.ins {W : World} {b c : Nat} {L : List (List UInt8 × Value)} (h : MapIs W b c L) {ops : Array Oper} {rest : List Oper} {o : Oper} {a : Act} {Q : Exit → Act → World → Prop}
    (hg : o.guard = none) (m x v : Operand) (t e : TypeId) (hop : o.op = Op.insert t m x v) (ht : Tryd.prog.underlying t = some (.map 9 e)) (hc : c < 100)
    (hm : a.eval m = .map (some b)) (s : ByteArray) (hs : s.size ≤ maxLen) (val : Value) (hx : a.eval x = .string s) (hv : a.eval v = val)
    (hK : ∀ W', MapIs W' b (c + 1) ((s.data.toList, val) :: L) → W.grownBy W' (some b) → wpList Tryd.prog ops Q rest (a.put o.dst undef) W') : wpList Tryd.prog ops Q (o :: rest) a W := by
  obtain ⟨D, hown, hD, hall⟩ := h
  refine wpList_insert_own W hg m x v t hop 9 e (string_keyed Tryd.underlying9) ht heldElem b c D hm hown (by unfold maxLen; omega) _ _ _ hx hv (key_str s hs) (.held val) [] rfl ?_
  intro W' hown' hgr
  refine hK W' ⟨_, hown', ?_, fun y => ?_⟩ hgr
  · obtain ⟨es, rfl⟩ := hD
    exact ⟨_, rfl⟩
  · by_cases hy : s.data.toList = y
    · subst hy
      have e : ((s.data.toList, val) :: L).find? (fun p => p.1 == s.data.toList) = some (s.data.toList, val) := List.find?_cons_of_pos (by simp)
      rw [e]
      refine ⟨by rw [Maps.has_put_same hD (by constructor)]; rfl, fun g z hg => ?_⟩
      cases hg
      exact Maps.atKey_put_same hD (by constructor) _ _
    · have e : ((s.data.toList, val) :: L).find? (fun p => p.1 == y) = L.find? (fun p => p.1 == y) := List.find?_cons_of_neg (by simpa using hy)
      have hy2 : ¬ (y = s.data.toList) := fun h => hy h.symm
      rw [e, Maps.has_put_other (by simpa using hy2)]
      refine ⟨(hall y).1, fun g z hg => ?_⟩
      rw [Maps.atKey_put_other (by simpa using hy2)]
      exact (hall y).2 g z hg
theorem MapIs.look {W : World} {b c : Nat} {L : List (List UInt8 × Value)} (h : MapIs W b c L) (t e : TypeId) (ht : Tryd.prog.underlying t = some (.map 9 e)) (z : Value) (hz : (zeroValue e).run Tryd.prog W = .ok z W) (s : ByteArray) (hs : s.size ≤ maxLen) :
    (∃ v, L.find? (fun p => p.1 == s.data.toList) = some (s.data.toList, v) ∧ (Instr.lookup t (.map (some b)) (.string s) true).run Tryd.prog W = .ok (.tuple #[v, .bool true]) W) ∨ (L.find? (fun p => p.1 == s.data.toList) = none ∧ (Instr.lookup t (.map (some b)) (.string s) true).run Tryd.prog W = .ok (.tuple #[z, .bool false]) W) := by
  obtain ⟨D, hown, hD, hall⟩ := h
  obtain ⟨v, ps, hrun, hv⟩ := hown.look_ok (string_keyed Tryd.underlying9) ht hz (zd := .held z) (zp := []) rfl (key_str s hs)
  obtain ⟨h1, h2⟩ := hall s.data.toList
  cases hf : L.find? (fun p => p.1 == s.data.toList) with
  | none =>
    rw [hf] at h1
    right
    refine ⟨rfl, ?_⟩
    rw [Maps.atKey_of_not_has h1] at hv
    rw [heldElem_inv hv, h1] at hrun
    exact hrun
  | some f =>
    rw [hf] at h1
    left
    obtain ⟨k, u⟩ := f
    have hk : k = s.data.toList := by have := List.find?_some hf; simpa using this
    subst hk
    refine ⟨u, rfl, ?_⟩
    rw [h2 _ _ hf] at hv
    rw [heldElem_inv hv, h1] at hrun
    exact hrun

/-- An entry of the table. -/
def entV (tk : Int) (f : Nat) : Value := .agg #[.int .i64 tk, .func (.func f) #[] #[]]
def tabL : List (List UInt8 × Value) := [([99, 104, 114], entV 1 54), ([111, 114, 100], entV 2 53), ([99, 108, 116], entV 2 52), ([99, 101, 113], entV 2 51), ([103, 101], entV 1 50), ([103, 116], entV 1 49), ([108, 101], entV 1 48), ([108, 116], entV 1 47), ([110, 101], entV 1 46), ([101, 113], entV 1 44), ([114, 101, 109], entV 1 43), ([113, 117, 111, 116], entV 1 42), ([109, 117, 108], entV 1 41), ([115, 117, 98], entV 1 40), ([97, 100, 100], entV 1 38)]
set_option maxHeartbeats 4000000 in
set_option maxRecDepth 100000 in
theorem table_c (w : World) : Calls Tryd.prog 25 #[] w fun e W' => e = .returned (.map (some w.heap.size)) ∧ MapIs W' w.heap.size 15 tabL ∧ Below w.heap.size w W' := by
  go_enter Tryd.func25, Tryd.ntmps25
  go_wp2_with (first
    | (refine wpList_makeMap' _ rfl _ rfl ?_; have hown : Hid (MapIs (w.alloc (.map #[] 0)) w.heap.size 0 []) := mapIs_new w; have hB : Hid (Below w.heap.size w (w.alloc (.map #[] 0))) := below1 w _)
    | (refine hown.out.ins rfl _ _ _ _ 49 rfl Tryd.underlying46 (by decide) rfl _ (by decide) _ rfl rfl ?_; intro w1 hown1 hgrow1; clear hown; have hown : Hid (MapIs _ _ _ _) := hown1; clear hown1; have hB1 : Hid (Below _ _ _) := hB.out.grown hgrow1 hB.out.size (fun k hk => by cases hk; exact Nat.le_refl _); clear hB hgrow1; have hB := hB1; clear hB1))
  go_ret
  exact ⟨rfl, hown.out, hB.out⟩

/-- What the table says of a name. -/
def opOf (x : List UInt8) : Option (Int × (Int → Int → Value)) :=
  if x = [97, 100, 100] then some (1, addM) else
  if x = [115, 117, 98] then some (1, subM) else
  if x = [109, 117, 108] then some (1, mulM) else
  if x = [113, 117, 111, 116] then some (1, quotM) else
  if x = [114, 101, 109] then some (1, remM) else
  if x = [101, 113] then some (1, eqM) else
  if x = [110, 101] then some (1, neM) else
  if x = [108, 116] then some (1, ltM) else
  if x = [108, 101] then some (1, leM) else
  if x = [103, 116] then some (1, gtM) else
  if x = [103, 101] then some (1, geM) else
  if x = [99, 101, 113] then some (2, eqM) else
  if x = [99, 108, 116] then some (2, ltM) else
  if x = [111, 114, 100] then some (2, ordM) else
  if x = [99, 104, 114] then some (1, chrM) else
  none
/-- The table, held against what its functions do. -/
theorem tab_find (x : List UInt8) : (tabL.find? (fun p => p.1 == x) = none ∧ opOf x = none) ∨ ∃ tk f g, tabL.find? (fun p => p.1 == x) = some (x, entV tk f) ∧ opOf x = some (tk, g) ∧ FnOK f g ∧ (arM x = 1 ∨ arM x = 2) := by
  by_cases hadd : x = [97, 100, 100]
  · subst hadd; exact .inr ⟨1, 38, addM, rfl, rfl, t1_f, by decide⟩
  by_cases hsub : x = [115, 117, 98]
  · subst hsub; exact .inr ⟨1, 40, subM, rfl, rfl, t2_f, by decide⟩
  by_cases hmul : x = [109, 117, 108]
  · subst hmul; exact .inr ⟨1, 41, mulM, rfl, rfl, t3_f, by decide⟩
  by_cases hquot : x = [113, 117, 111, 116]
  · subst hquot; exact .inr ⟨1, 42, quotM, rfl, rfl, quotient_f, by decide⟩
  by_cases hrem : x = [114, 101, 109]
  · subst hrem; exact .inr ⟨1, 43, remM, rfl, rfl, remainder_f, by decide⟩
  by_cases heq : x = [101, 113]
  · subst heq; exact .inr ⟨1, 44, eqM, rfl, rfl, t4_f, by decide⟩
  by_cases hne : x = [110, 101]
  · subst hne; exact .inr ⟨1, 46, neM, rfl, rfl, t5_f, by decide⟩
  by_cases hlt : x = [108, 116]
  · subst hlt; exact .inr ⟨1, 47, ltM, rfl, rfl, t6_f, by decide⟩
  by_cases hle : x = [108, 101]
  · subst hle; exact .inr ⟨1, 48, leM, rfl, rfl, t7_f, by decide⟩
  by_cases hgt : x = [103, 116]
  · subst hgt; exact .inr ⟨1, 49, gtM, rfl, rfl, t8_f, by decide⟩
  by_cases hge : x = [103, 101]
  · subst hge; exact .inr ⟨1, 50, geM, rfl, rfl, t9_f, by decide⟩
  by_cases hceq : x = [99, 101, 113]
  · subst hceq; exact .inr ⟨2, 51, eqM, rfl, rfl, t10_f, by decide⟩
  by_cases hclt : x = [99, 108, 116]
  · subst hclt; exact .inr ⟨2, 52, ltM, rfl, rfl, t11_f, by decide⟩
  by_cases hord : x = [111, 114, 100]
  · subst hord; exact .inr ⟨2, 53, ordM, rfl, rfl, t12_f, by decide⟩
  by_cases hchr : x = [99, 104, 114]
  · subst hchr; exact .inr ⟨1, 54, chrM, rfl, rfl, t13_f, by decide⟩
  left
  refine ⟨?_, by simp [opOf, *]⟩
  simp [tabL]
  simp [Ne.symm, eq_comm, *]
end Go.Proofs.YtijafedpaghhaaaDoor
