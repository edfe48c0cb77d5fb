/-
  What kids a node of each kind must have, as a table; and a map that holds such.
-/
import Derived.Test.YtndpebkiiemfpaaGreatDoorPat
import Derived.Maps.OwnSet
import Derived.Maps.OwnOps
import Derived.Maps.Views
namespace Go.Proofs.YtndpebkiiemfpaaGreatDoor
open Go.RowKit Go.Shelf Go.Maps
set_option linter.unusedVariables false
variable {b0 : Nat}

def manyP (c : Int → Bool) : List Int → Int := betweenP 0 9223372036854775807 c
def someP (c : Int → Bool) : List Int → Int := betweenP 1 9223372036854775807 c
/-- Of each kind, the patterns that its kids must fit. -/
def kp (k : Int) : Option (List (List Int → Int)) :=
  if k = 1 then some [manyP isDeclB]
  else if k = 2 then some [someP (onlyB 3)]
  else if k = 3 then some []
  else if k = 4 then some [someP (onlyB 5)]
  else if k = 5 then some []
  else if k = 6 then some [someP isPatB, oneP (onlyB 8)]
  else if k = 7 then some [oneP isPatB, oneP (onlyB 8)]
  else if k = 8 then some [eitherP (someP (onlyB 9)) (oneP isExpB), atMostOneP (onlyB 10)]
  else if k = 9 then some [oneP isExpB, oneP isExpB]
  else if k = 10 then some [manyP isDeclB]
  else if k = 11 then some []
  else if k = 12 then some []
  else if k = 13 then some []
  else if k = 14 then some []
  else if k = 15 then some []
  else if k = 16 then some [oneP isExpB, someP isExpB]
  else if k = 17 then some [oneP isExpB, turnsP (onlyB 5) isExpB]
  else if k = 18 then some [oneP isExpB]
  else if k = 19 then some [someP isPatB, oneP isExpB]
  else if k = 20 then some [oneP (onlyB 10), oneP isExpB]
  else if k = 21 then some [oneP isExpB, oneP isExpB, oneP isExpB]
  else if k = 22 then some [oneP isExpB, someP (onlyB 23)]
  else if k = 23 then some [oneP isPatB, oneP (onlyB 8)]
  else if k = 24 then some [allButOneP isStmtB, oneP (onlyB 33)]
  else if k = 25 then some [betweenP 2 4 isExpB]
  else if k = 26 then some [manyP isExpB]
  else if k = 27 then some [oneP isExpB, someP isStmtB]
  else if k = 28 then some [oneP isExpB]
  else if k = 29 then some [oneP isExpB]
  else if k = 30 then some [oneP isExpB]
  else if k = 31 then some [oneP isPatB, oneP isExpB]
  else if k = 32 then some [oneP (onlyB 10)]
  else if k = 33 then some [oneP isExpB]
  else if k = 34 then some []
  else if k = 35 then some []
  else if k = 36 then some []
  else if k = 37 then some []
  else if k = 38 then some []
  else if k = 39 then some [manyP isPatB]
  else if k = 40 then some [betweenP 2 4 isPatB]
  else if k = 41 then some [manyP isPatB]
  else if k = 42 then some [oneP isPatB]
  else if k = 43 then some [oneP isPatB]
  else if k = 44 then some [oneP isPatB, turnsP (onlyB 5) isPatB]
  else none

/-- An element is what it is. -/
def heldElem (v : Value) : Option (DataW Value × List MemPlace) := some (.held v, [])
theorem heldElem_inv {v u : Value} {ps : List MemPlace} (h : heldElem v = some (.held u, ps)) : v = u := by
  simp [heldElem] at h; exact h.1
def Dkp (L : List (Int × Value)) : DataW Value := L.foldl (fun D p => D.put (.int .i64 p.1) (.held p.2)) (.map [])
theorem Dkp_snoc (L : List (Int × Value)) (k : Int) (v : Value) : Dkp (L ++ [(k, v)]) = (Dkp L).put (.int .i64 k) (.held v) := by
  unfold Dkp; rw [List.foldl_append]; rfl
theorem fold_map : ∀ (L : List (Int × Value)) (D : DataW Value), Maps.IsMap D → Maps.IsMap (L.foldl (fun D p => D.put (.int .i64 p.1) (.held p.2)) D)
  | [], D, h => h
  | p :: L, D, h => by
    rw [List.foldl_cons]
    refine fold_map L _ ?_
    obtain ⟨es, rfl⟩ := h
    exact ⟨_, rfl⟩
theorem fold_look : ∀ (L : List (Int × Value)) (D : DataW Value) (k : Int) (z : DataW Value), Maps.IsMap D →
    (∃ v, (k, v) ∈ L ∧ (L.foldl (fun D p => D.put (.int .i64 p.1) (.held p.2)) D).atKey (.int .i64 k) z = .held v ∧ Maps.has (L.foldl (fun D p => D.put (.int .i64 p.1) (.held p.2)) D) (.int .i64 k) = true) ∨
    ((∀ p ∈ L, p.1 ≠ k) ∧ (L.foldl (fun D p => D.put (.int .i64 p.1) (.held p.2)) D).atKey (.int .i64 k) z = D.atKey (.int .i64 k) z ∧ Maps.has (L.foldl (fun D p => D.put (.int .i64 p.1) (.held p.2)) D) (.int .i64 k) = Maps.has D (.int .i64 k))
  | [], D, k, z, hD => .inr ⟨fun p hp => (by cases hp), rfl, rfl⟩
  | q :: L, D, k, z, hD => by
    have hD' : Maps.IsMap (D.put (.int .i64 q.1) (.held q.2)) := by
      obtain ⟨es, rfl⟩ := hD
      exact ⟨_, rfl⟩
    rw [List.foldl_cons]
    rcases fold_look L _ k z hD' with ⟨v, h1, h2, h3⟩ | ⟨h1, h2, h3⟩
    · exact .inl ⟨v, List.mem_cons_of_mem _ h1, h2, h3⟩
    · by_cases hq : q.1 = k
      · left
        refine ⟨q.2, by rw [← hq]; exact List.mem_cons_self, ?_, ?_⟩
        · rw [h2, ← hq, Maps.atKey_put_same hD (by constructor)]
        · rw [h3, ← hq, Maps.has_put_same hD (by constructor)]
      · right
        refine ⟨fun p hp => ?_, ?_, ?_⟩
        · rcases List.mem_cons.1 hp with rfl | hp
          · exact hq
          · exact h1 p hp
        · rw [h2, Maps.atKey_put_other (by simp; exact fun h => hq h.symm)]
        · rw [h3, Maps.has_put_other (by simp; exact fun h => hq h.symm)]
theorem Dkp_look (L : List (Int × Value)) (k : Int) (z : DataW Value) : (∃ v, (k, v) ∈ L ∧ (Dkp L).atKey (.int .i64 k) z = .held v ∧ Maps.has (Dkp L) (.int .i64 k) = true) ∨ ((∀ p ∈ L, p.1 ≠ k) ∧ (Dkp L).atKey (.int .i64 k) z = z ∧ Maps.has (Dkp L) (.int .i64 k) = false) := by
  rcases fold_look L (.map []) k z ⟨_, rfl⟩ with h | ⟨h1, h2, h3⟩
  · exact .inl h
  · exact .inr ⟨h1, h2, h3⟩

/-- A map of kinds and patterns, in memory. -/
def MapSt (b0 : Nat) (W : World) (L : List (Int × Value)) : Prop := W.ownsMap Tryz.prog 3 heldElem b0 L.length (Dkp L) ∧ ∀ p ∈ L, ∃ ps o cap, kp p.1 = some ps ∧ p.2 = .slice o ps.length cap ∧ PatsAt b0 W o ps
theorem PatsAt.agr {W W' : World} {o : Option Addr} {ps : List (List Int → Int)} (h : PatsAt b0 W o ps) (ha : Agr b0 W W') : PatsAt b0 W' o ps := by
  rcases h with h | ⟨g, off, e, hg, hne, h⟩
  · exact .inl h
  · refine .inr ⟨g, off, e, Nat.lt_of_lt_of_le hg ha.1, hne, fun j hj => ?_⟩
    obtain ⟨v, h1, h2⟩ := h j hj
    refine ⟨v, ?_, h2.agr ha⟩
    simp only [World.cell?] at h1 ⊢
    rw [ha.2 g hg (by omega) (by omega)]
    exact h1
theorem MapSt.below {W W' : World} {L : List (Int × Value)} (h : MapSt b0 W L) (hb : Below W.heap.size W W') : MapSt b0 W' L := by
  refine ⟨?_, fun p hp => ?_⟩
  · have hlt := h.1.lt
    obtain ⟨es, clock, h1, h2⟩ := h.1
    exact ⟨es, clock, by rw [hb.block b0 hlt]; exact h1, h2⟩
  · obtain ⟨ps, o, cap, h1, h2, h3⟩ := h.2 p hp
    exact ⟨ps, o, cap, h1, h2, h3.below hb⟩
/-- What stands while the map is made. -/
def KSt (b0 : Nat) (w W : World) (vw vr vo : Value) (L : List (Int × Value)) : Prop := Below w.heap.size w W ∧ ClsOK b0 W vw (onlyB 10) ∧ ClsOK b0 W vr (onlyB 8) ∧ ClsOK b0 W vo (onlyB 5) ∧ MapSt b0 W L
theorem KSt.below {w W W' : World} {vw vr vo : Value} {L : List (Int × Value)} (h : KSt b0 w W vw vr vo L) (hb : Below W.heap.size W W') : KSt b0 w W' vw vr vo L :=
  ⟨h.1.trans (hb.mono h.1.size), h.2.1.below hb, h.2.2.1.below hb, h.2.2.2.1.below hb, h.2.2.2.2.below hb⟩
theorem KSt.lt {w W : World} {vw vr vo : Value} {L : List (Int × Value)} (h : KSt b0 w W vw vr vo L) : b0 < W.heap.size := h.2.2.2.2.1.lt
theorem KSt.insert {w W W' : World} {vw vr vo : Value} {L : List (Int × Value)} (h : KSt b0 w W vw vr vo L) (hw : w.heap.size ≤ b0) (k : Int) (v : Value) (ps : List (List Int → Int)) (o : Option Addr) (cap : Nat) (hk : kp k = some ps) (hv : v = .slice o ps.length cap) (hp : PatsAt b0 W o ps)
    (hown : W'.ownsMap Tryz.prog 3 heldElem b0 (L.length + 1) ((Dkp L).put (.int .i64 k) (.held v))) (hg : W.grownBy W' (some b0)) : KSt b0 w W' vw vr vo (L ++ [(k, v)]) := by
  have ha : Agr b0 W W' := ⟨hg.size, fun j hj hne _ => hg.block j hj (by simpa using hne)⟩
  refine ⟨h.1.grown hg h.1.size (fun j hj => by cases hj; exact hw), h.2.1.agr ha, h.2.2.1.agr ha, h.2.2.2.1.agr ha, ?_, fun p hp' => ?_⟩
  · rw [Dkp_snoc, List.length_append]; exact hown
  · rcases List.mem_append.1 hp' with hp' | hp'
    · obtain ⟨ps, o, cap, h1, h2, h3⟩ := h.2.2.2.2.2 p hp'
      exact ⟨ps, o, cap, h1, h2, h3.agr ha⟩
    · obtain rfl : p = (k, v) := by simpa using hp'
      exact ⟨ps, o, cap, hk, hv, hp.agr ha⟩
/-- The same, of the first n kinds. -/
def KS2 (b0 : Nat) (w W : World) (vw vr vo : Value) (n : Nat) : Prop := ∃ L : List (Int × Value), L.map Prod.fst = (List.range n).map (fun i : Nat => (i : Int) + 1) ∧ KSt b0 w W vw vr vo L
theorem KS2.below {w W W' : World} {vw vr vo : Value} {n : Nat} (h : KS2 b0 w W vw vr vo n) (hb : Below W.heap.size W W') : KS2 b0 w W' vw vr vo n := by
  obtain ⟨L, h1, h2⟩ := h
  exact ⟨L, h1, h2.below hb⟩
theorem KS2.alloc {w W : World} {vw vr vo : Value} {n : Nat} (h : KS2 b0 w W vw vr vo n) (o : Obj) : KS2 b0 w (W.alloc o) vw vr vo n := h.below ((Below.refl _ _).alloc (Nat.le_refl _) _)
theorem KS2.lt {w W : World} {vw vr vo : Value} {n : Nat} (h : KS2 b0 w W vw vr vo n) : b0 < W.heap.size := by
  obtain ⟨L, h1, h2⟩ := h
  exact h2.lt
theorem KS2.size {w W : World} {vw vr vo : Value} {n : Nat} (h : KS2 b0 w W vw vr vo n) : w.heap.size ≤ W.heap.size := by
  obtain ⟨L, h1, h2⟩ := h
  exact h2.1.size
theorem KS2.w {w W : World} {vw vr vo : Value} {n : Nat} (h : KS2 b0 w W vw vr vo n) : ClsOK b0 W vw (onlyB 10) := by
  obtain ⟨L, h1, h2⟩ := h
  exact h2.2.1
theorem KS2.r {w W : World} {vw vr vo : Value} {n : Nat} (h : KS2 b0 w W vw vr vo n) : ClsOK b0 W vr (onlyB 8) := by
  obtain ⟨L, h1, h2⟩ := h
  exact h2.2.2.1
theorem KS2.o {w W : World} {vw vr vo : Value} {n : Nat} (h : KS2 b0 w W vw vr vo n) : ClsOK b0 W vo (onlyB 5) := by
  obtain ⟨L, h1, h2⟩ := h
  exact h2.2.2.2.1
theorem wpList_ins (W : World) {w : World} {ops : Array Oper} {rest : List Oper} {o : Oper} {a : Act} {Q : Exit → Act → World → Prop} {vw vr vo : Value} (n : Nat)
    (hg : o.guard = none) (m x v : Operand) (hop : o.op = Op.insert 90 m x v) (h : KS2 b0 w W vw vr vo n) (hw : w.heap.size ≤ b0) (hm : a.eval m = .map (some b0))
    (ps : List (List Int → Int)) (o' : Option Addr) (cap : Nat) (hk : kp ((n : Int) + 1) = some ps) (hx : a.eval x = .int .i64 ((n : Int) + 1)) (hv : a.eval v = .slice o' ps.length cap) (hp : PatsAt b0 W o' ps) (hn : n < 100)
    (hK : ∀ W', KS2 b0 w W' vw vr vo (n + 1) → wpList Tryz.prog ops Q rest (a.put o.dst undef) W') : wpList Tryz.prog ops Q (o :: rest) a W := by
  obtain ⟨L, h1, h2⟩ := h
  have hLn : L.length = n := by have := congrArg List.length h1; simpa using this
  refine wpList_insert_own W hg m x v 90 hop 3 122 (int_keyed Tryz.underlying3) Tryz.underlying90 heldElem b0 L.length (Dkp L) hm h2.2.2.2.2.1 (by rw [hLn]; unfold maxLen; omega) _ _ (.int .i64 ((n : Int) + 1)) hx hv (keyOf_int_mk Tryz.underlying3 (by simp [Lit.wf, IntKind.min, IntKind.max, IntKind.signed, IntKind.bits]; omega)) (.held (.slice o' ps.length cap)) [] rfl ?_
  intro W' hown hgrow
  refine hK W' ⟨L ++ [((n : Int) + 1, .slice o' ps.length cap)], ?_, h2.insert hw _ _ ps o' cap hk rfl hp hown hgrow⟩
  rw [List.map_append, h1, List.range_succ, List.map_append]
  rfl
theorem ins_run {w W : World} {vw vr vo : Value} (n : Nat) (h : KS2 b0 w W vw vr vo n) (hw : w.heap.size ≤ b0) (k : Int) (hkn : k = (n : Int) + 1) (ps : List (List Int → Int)) (o' : Option Addr) (len cap : Nat) (hl : len = ps.length) (hk : kp k = some ps) (hp : PatsAt b0 W o' ps) (hn : n < 100) :
    ∃ W', (Instr.mapUpdate 90 (.map (some b0)) (.int .i64 k) (.slice o' len cap)).run Tryz.prog W = .ok () W' ∧ KS2 b0 w W' vw vr vo (n + 1) := by
  subst hkn hl
  obtain ⟨L, h1, h2⟩ := h
  have hLn : L.length = n := by have := congrArg List.length h1; simpa using this
  obtain ⟨W', hrun, hown, hgrow⟩ := h2.2.2.2.2.1.update (val := .slice o' ps.length cap) (int_keyed Tryz.underlying3) Tryz.underlying90 (by rw [hLn]; unfold maxLen; omega) (keyOf_int_mk Tryz.underlying3 (a := (n : Int) + 1) (by simp [Lit.wf, IntKind.min, IntKind.max, IntKind.signed, IntKind.bits]; omega)) (d := .held (.slice o' ps.length cap)) (ps := []) rfl
  refine ⟨W', hrun, L ++ [((n : Int) + 1, .slice o' ps.length cap)], ?_, h2.insert hw _ _ ps o' cap hk rfl hp hown hgrow⟩
  rw [List.map_append, h1, List.range_succ, List.map_append]
  rfl
/-- One, two, three patterns in a row that was just laid. -/
theorem pats1 {W : World} {f1 : Nat} {q1 : Array Value} {p1 : List Int → Int} (h1 : PatOK b0 W (.func (.func f1) #[] q1) p1) (hb : b0 < W.heap.size) : PatsAt b0 (W.alloc (.cells #[.func (.func f1) #[] q1] 120)) (some ⟨W.heap.size, 0, none⟩) [p1] := by
  have hA : Below W.heap.size W (W.alloc (.cells #[.func (.func f1) #[] q1] 120)) := (Below.refl _ _).alloc (Nat.le_refl _) _
  have k := Blk.new W #[.func (.func f1) #[] q1] 120
  refine .inr ⟨_, 0, rfl, k.lt, by omega, fun j hj => ?_⟩
  match j, hj with
  | 0, _ => exact ⟨_, k.cell 0 _ rfl, h1.below hA⟩
theorem pats2 {W : World} {f1 f2 : Nat} {q1 q2 : Array Value} {p1 p2 : List Int → Int} (h1 : PatOK b0 W (.func (.func f1) #[] q1) p1) (h2 : PatOK b0 W (.func (.func f2) #[] q2) p2) (hb : b0 < W.heap.size) : PatsAt b0 (W.alloc (.cells #[.func (.func f1) #[] q1, .func (.func f2) #[] q2] 120)) (some ⟨W.heap.size, 0, none⟩) [p1, p2] := by
  have hA : Below W.heap.size W (W.alloc (.cells #[.func (.func f1) #[] q1, .func (.func f2) #[] q2] 120)) := (Below.refl _ _).alloc (Nat.le_refl _) _
  have k := Blk.new W #[.func (.func f1) #[] q1, .func (.func f2) #[] q2] 120
  refine .inr ⟨_, 0, rfl, k.lt, by omega, fun j hj => ?_⟩
  match j, hj with
  | 0, _ => exact ⟨_, k.cell 0 _ rfl, h1.below hA⟩
  | 1, _ => exact ⟨_, k.cell 1 _ rfl, h2.below hA⟩
theorem pats3 {W : World} {f1 f2 f3 : Nat} {q1 q2 q3 : Array Value} {p1 p2 p3 : List Int → Int} (h1 : PatOK b0 W (.func (.func f1) #[] q1) p1) (h2 : PatOK b0 W (.func (.func f2) #[] q2) p2) (h3 : PatOK b0 W (.func (.func f3) #[] q3) p3) (hb : b0 < W.heap.size) : PatsAt b0 (W.alloc (.cells #[.func (.func f1) #[] q1, .func (.func f2) #[] q2, .func (.func f3) #[] q3] 120)) (some ⟨W.heap.size, 0, none⟩) [p1, p2, p3] := by
  have hA : Below W.heap.size W (W.alloc (.cells #[.func (.func f1) #[] q1, .func (.func f2) #[] q2, .func (.func f3) #[] q3] 120)) := (Below.refl _ _).alloc (Nat.le_refl _) _
  have k := Blk.new W #[.func (.func f1) #[] q1, .func (.func f2) #[] q2, .func (.func f3) #[] q3] 120
  refine .inr ⟨_, 0, rfl, k.lt, by omega, fun j hj => ?_⟩
  match j, hj with
  | 0, _ => exact ⟨_, k.cell 0 _ rfl, h1.below hA⟩
  | 1, _ => exact ⟨_, k.cell 1 _ rfl, h2.below hA⟩
  | 2, _ => exact ⟨_, k.cell 2 _ rfl, h3.below hA⟩
end Go.Proofs.YtndpebkiiemfpaaGreatDoor
