/-
  Of the core, what is wanted here: part 1.
-/
import Derived.Test.YtjmpjfggbhongaaDoorP11
import Derived.ProofKit
import Derived.OpenShut
import Derived.Deep.Slices
import Derived.Deep.AppendLies
import Derived.BigQuiet
import Derived.Sort.Walk0
namespace Go.Proofs.YtjmpjfggbhongaaDoor
open Go.ChangeShapes Go.WideShapes Go.ChangeAt Go.RowKit
set_option linter.unusedVariables false
theorem ExVal2.val {W : World} {d : Nat} {t : Tr (d + 1)} {v : Value} (h : ExVal2 W d t v) : ExVal W W.heap.size d t v := by
  obtain ⟨o3, c3, o4, c4, o5, c5, o6, c6, e, k3, k4, k5, k6, -⟩ := h
  exact ⟨o3, c3, o4, c4, o5, c5, o6, c6, e, k3, k4.mono (fun x g off _ h => ⟨h.1, h.2.1⟩), k5.mono (fun x g off _ h => h.1), k6.mono (fun x g off _ h => ⟨h.1, h.2.1, h.2.2.1, h.2.2.2.1, h.2.2.2.2.1⟩)⟩
end Go.Proofs.YtjmpjfggbhongaaDoor
namespace Go.Proofs.YtjmpjfggbhongaaDoor
open Go.RowKit Go.Shelf Go.Maps
set_option linter.unusedVariables false
theorem depLe_zero {d : Nat} {t : Tr d} (h : depLe d t 0) : False := by
  cases d with
  | zero => exact nomatch t
  | succ d => exact h
/-- The same expression, as a tree of a smaller depth. -/
def down : (k d : Nat) → Tr d → Tr (k + 1)
  | _, 0, t => nomatch t
  | 0, d + 1, t => (⟨TrN.kind t, TrN.name t, TrN.num t, TrN.params t, [], [], []⟩ : TrN (Tr 0))
  | k + 1, d + 1, t => (⟨TrN.kind t, TrN.name t, TrN.num t, TrN.params t, (TrN.binds t).map (fun b => (b.1, down k d b.2)), (TrN.args t).map (down k d), (TrN.alts t).map (fun a => (a.1, down k d a.2))⟩ : TrN (Tr (k + 1)))
theorem nil_of {α : Type} {l : List α} (h : ∀ x ∈ l, False) : l = [] := by
  cases l with
  | nil => rfl
  | cons x l => exact (h x List.mem_cons_self).elim
theorem dep_one {d : Nat} {t : Tr (d + 1)} (h : depLe (d + 1) t 1) : TrN.binds t = [] ∧ TrN.args t = [] ∧ TrN.alts t = [] :=
  ⟨nil_of (fun b hb => depLe_zero (h.1 b hb)), nil_of (fun b hb => depLe_zero (h.2.1 b hb)), nil_of (fun b hb => depLe_zero (h.2.2 b hb))⟩
theorem RowIn.mapM {α β : Type} {B n : Nat} {P : α → Nat → Nat → Prop} {Q : β → Nat → Nat → Prop} {o : Option Addr} {l : List α} {f : α → β} (h : RowIn B n P o l) (hpq : ∀ x ∈ l, ∀ g off, P x g off → Q (f x) g off) : RowIn B n Q o (l.map f) := by
  rcases h with h | ⟨g, off, e, hg, h⟩
  · exact .inl (by rw [h]; rfl)
  · refine .inr ⟨g, off, e, hg, fun k hk => ?_⟩
    rw [List.getElem_map]
    have hk2 : k < l.length := by rw [List.length_map] at hk; exact hk
    exact hpq _ (List.getElem_mem hk2) _ _ (h k hk2)
theorem down_at {W : World} {B : Nat} : ∀ (k d : Nat) (t : Tr d) (g off : Nat), depLe d t (k + 1) → ExAt W B d t g off → ExAt W B (k + 1) (down k d t) g off
  | _, 0, t, _, _, _, _ => nomatch t
  | 0, d + 1, t, g, off, hd, h => by
    obtain ⟨hg, h0, h1, h2, ⟨o3, c3, h3, k3⟩, ⟨o4, c4, h4, k4⟩, ⟨o5, c5, h5, k5⟩, ⟨o6, c6, h6, k6⟩⟩ := h
    obtain ⟨b1, b2, b3⟩ := dep_one hd
    rw [b1] at h4
    rw [b2] at h5
    rw [b3] at h6
    exact ⟨hg, h0, h1, h2, ⟨o3, c3, h3, k3⟩, ⟨o4, c4, h4, .inl rfl⟩, ⟨o5, c5, h5, .inl rfl⟩, ⟨o6, c6, h6, .inl rfl⟩⟩
  | k + 1, d + 1, t, g, off, hd, h => by
    obtain ⟨hg, h0, h1, h2, ⟨o3, c3, h3, k3⟩, ⟨o4, c4, h4, k4⟩, ⟨o5, c5, h5, k5⟩, ⟨o6, c6, h6, k6⟩⟩ := h
    refine ⟨hg, h0, h1, h2, ⟨o3, c3, h3, k3⟩, ⟨o4, c4, ?_, ?_⟩, ⟨o5, c5, ?_, ?_⟩, ⟨o6, c6, ?_, ?_⟩⟩
    · show (_ : Option Value) = some (Value.slice o4 ((TrN.binds t).map _).length c4)
      rw [List.length_map]; exact h4
    · refine k4.mapM (f := fun (b : ByteArray × Tr d) => (b.1, down k d b.2)) ?_
      rintro x hx g off ⟨e1, e2⟩
      exact ⟨e1, down_at k d _ _ _ (hd.1 x hx) e2⟩
    · show (_ : Option Value) = some (Value.slice o5 ((TrN.args t).map _).length c5)
      rw [List.length_map]; exact h5
    · refine k5.mapM (f := down k d) ?_
      intro x hx g off e
      exact down_at k d _ _ _ (hd.2.1 x hx) e
    · show (_ : Option Value) = some (Value.slice o6 ((TrN.alts t).map _).length c6)
      rw [List.length_map]; exact h6
    · refine k6.mapM (f := fun (a : AltH × Tr d) => (a.1, down k d a.2)) ?_
      rintro x hx g off ⟨e1, e2, e3, e4, e6⟩
      exact ⟨e1, e2, e3, e4, down_at k d _ _ _ (hd.2.2 x hx) e6⟩
theorem down_cp {W : World} {B : Nat} : ∀ (k d : Nat) (t : Tr d) (g off : Nat), depLe d t (k + 1) → CpAt W B d t g off → CpAt W B (k + 1) (down k d t) g off
  | _, 0, t, _, _, _, _ => nomatch t
  | 0, d + 1, t, g, off, hd, h => ⟨h.1, fun g' x' n c hg' e k hk => (by cases hk), fun g' x' n c hg' e k hk => (by cases hk), fun g' x' n c hg' e k hk => (by cases hk)⟩
  | k + 1, d + 1, t, g, off, hd, h => by
    obtain ⟨h6, p4, p5, p6⟩ := h
    refine ⟨h6, fun g' x' n c hg' e j hj => ?_, fun g' x' n c hg' e j hj => ?_, fun g' x' n c hg' e j hj => ?_⟩
    · have hj2 : j < (TrN.binds t).length := by have : j < ((TrN.binds t).map (fun b => (b.1, down k d b.2))).length := hj; rwa [List.length_map] at this
      have e2 : (TrN.binds (down (k + 1) (d + 1) t))[j]'hj = ((TrN.binds t)[j].1, down k d (TrN.binds t)[j].2) := List.getElem_map ..
      rw [e2]
      exact down_cp k d _ _ _ (hd.1 _ (List.getElem_mem hj2)) (p4 g' x' n c hg' e j hj2)
    · have hj2 : j < (TrN.args t).length := by have : j < ((TrN.args t).map (down k d)).length := hj; rwa [List.length_map] at this
      have e2 : (TrN.args (down (k + 1) (d + 1) t))[j]'hj = down k d (TrN.args t)[j] := List.getElem_map ..
      rw [e2]
      exact down_cp k d _ _ _ (hd.2.1 _ (List.getElem_mem hj2)) (p5 g' x' n c hg' e j hj2)
    · have hj2 : j < (TrN.alts t).length := by have : j < ((TrN.alts t).map (fun a => (a.1, down k d a.2))).length := hj; rwa [List.length_map] at this
      have e2 : (TrN.alts (down (k + 1) (d + 1) t))[j]'hj = ((TrN.alts t)[j].1, down k d (TrN.alts t)[j].2) := List.getElem_map ..
      rw [e2]
      exact down_cp k d _ _ _ (hd.2.2 _ (List.getElem_mem hj2)) (p6 g' x' n c hg' e j hj2)
theorem down_wf : ∀ (k d : Nat) (t : Tr d), WfT d t → WfT (k + 1) (down k d t)
  | _, 0, t, _ => nomatch t
  | 0, d + 1, t, h => ⟨h.1, h.2.1, h.2.2.1, h.2.2.2.1, ⟨Nat.zero_le _, fun b hb => by cases hb⟩, ⟨Nat.zero_le _, fun b hb => by cases hb⟩, ⟨Nat.zero_le _, fun b hb => by cases hb⟩⟩
  | k + 1, d + 1, t, h => by
    obtain ⟨h0, h1, h2, h3, ⟨b4, q4⟩, ⟨b5, q5⟩, ⟨b6, q6⟩⟩ := h
    refine ⟨h0, h1, h2, h3, ⟨?_, fun b hb => ?_⟩, ⟨?_, fun b hb => ?_⟩, ⟨?_, fun b hb => ?_⟩⟩
    · show ((TrN.binds t).map _).length ≤ _; rw [List.length_map]; exact b4
    · obtain ⟨x, hx, rfl⟩ := List.mem_map.1 hb; exact ⟨(q4 x hx).1, down_wf k d _ (q4 x hx).2⟩
    · show ((TrN.args t).map _).length ≤ _; rw [List.length_map]; exact b5
    · obtain ⟨x, hx, rfl⟩ := List.mem_map.1 hb; exact down_wf k d _ (q5 x hx)
    · show ((TrN.alts t).map _).length ≤ _; rw [List.length_map]; exact b6
    · obtain ⟨x, hx, rfl⟩ := List.mem_map.1 hb
      obtain ⟨p1, p2, p3, p4, p5⟩ := q6 x hx
      exact ⟨p1, p2, p3, p4, down_wf k d _ p5⟩
theorem down_cnt : ∀ (k d : Nat) (t : Tr d), depLe d t (k + 1) → cntM (k + 1) (down k d t) = cntM d t
  | _, 0, t, _ => nomatch t
  | 0, d + 1, t, h => by
    obtain ⟨b1, b2, b3⟩ := dep_one h
    show 1 + (TrN.params t).length + (TrN.name t).size / 64 + ((TrN.params t).map (fun x => x.size / 64)).sum + 0 + 0 + 0 = 1 + (TrN.params t).length + (TrN.name t).size / 64 + ((TrN.params t).map (fun x => x.size / 64)).sum + ((TrN.binds t).map _).sum + ((TrN.args t).map _).sum + ((TrN.alts t).map _).sum
    rw [b1, b2, b3]; rfl
  | k + 1, d + 1, t, h => by
    have e1 : ((TrN.binds t).map (fun b => (b.1, down k d b.2))).map (fun b => 1 + b.1.size / 64 + cntM (k + 1) b.2) = (TrN.binds t).map fun b => 1 + b.1.size / 64 + cntM d b.2 := by
      rw [List.map_map]; exact map_congr' (fun x hx => by show 1 + x.1.size / 64 + cntM (k + 1) (down k d x.2) = _; rw [down_cnt k d _ (h.1 x hx)])
    have e2 : ((TrN.args t).map (down k d)).map (cntM (k + 1)) = (TrN.args t).map (cntM d) := by
      rw [List.map_map]; exact map_congr' (fun x hx => by show cntM (k + 1) (down k d x) = _; rw [down_cnt k d _ (h.2.1 x hx)])
    have e3 : ((TrN.alts t).map (fun a => (a.1, down k d a.2))).map (fun a => a.1.vars.length + a.1.name.size / 64 + cntM (k + 1) a.2 + (a.1.vars.map (fun x => x.size / 64)).sum) = (TrN.alts t).map fun a => a.1.vars.length + a.1.name.size / 64 + cntM d a.2 + (a.1.vars.map (fun x => x.size / 64)).sum := by
      rw [List.map_map]; exact map_congr' (fun x hx => by show x.1.vars.length + x.1.name.size / 64 + cntM (k + 1) (down k d x.2) + _ = _; rw [down_cnt k d _ (h.2.2 x hx)])
    show 1 + (TrN.params t).length + (TrN.name t).size / 64 + ((TrN.params t).map (fun x => x.size / 64)).sum + (((TrN.binds t).map (fun b => (b.1, down k d b.2))).map (fun b => 1 + b.1.size / 64 + cntM (k + 1) b.2)).sum + (((TrN.args t).map (down k d)).map (cntM (k + 1))).sum + (((TrN.alts t).map (fun a => (a.1, down k d a.2))).map (fun a => a.1.vars.length + a.1.name.size / 64 + cntM (k + 1) a.2 + (a.1.vars.map (fun x => x.size / 64)).sum)).sum = _
    rw [e1, e2, e3]; rfl
theorem down_val2 {W : World} {k d : Nat} {t : Tr (d + 1)} {v : Value} (hd : depLe (d + 1) t (k + 1)) (h : ExVal2 W d t v) : ExVal2 W k (down k (d + 1) t) v := by
  obtain ⟨o3, c3, o4, c4, o5, c5, o6, c6, e, k3, k4, k5, k6, hle⟩ := h
  cases k with
  | zero =>
    obtain ⟨b1, b2, b3⟩ := dep_one hd
    rw [b1, b2, b3] at e
    exact ⟨o3, c3, o4, c4, o5, c5, o6, c6, e, k3, .inl rfl, .inl rfl, .inl rfl, Nat.zero_le _⟩
  | succ k =>
    refine ⟨o3, c3, o4, c4, o5, c5, o6, c6, ?_, k3, ?_, ?_, ?_, ?_⟩
    · rw [e]
      show _ = Value.agg #[_, _, _, _, .slice o4 ((TrN.binds t).map _).length c4, .slice o5 ((TrN.args t).map _).length c5, .slice o6 ((TrN.alts t).map _).length c6]
      rw [List.length_map, List.length_map, List.length_map]; rfl
    · refine k4.mapM (f := fun (b : ByteArray × Tr d) => (b.1, down k d b.2)) ?_
      rintro x hx g off ⟨e1, e2, e3⟩
      exact ⟨e1, down_at k d _ _ _ (hd.1 x hx) e2, down_cp k d _ _ _ (hd.1 x hx) e3⟩
    · refine k5.mapM (f := down k d) ?_
      rintro x hx g off ⟨e2, e3⟩
      exact ⟨down_at k d _ _ _ (hd.2.1 x hx) e2, down_cp k d _ _ _ (hd.2.1 x hx) e3⟩
    · refine k6.mapM (f := fun (a : AltH × Tr d) => (a.1, down k d a.2)) ?_
      rintro x hx g off ⟨e1, e2, e3, e4, e5, e6⟩
      exact ⟨e1, e2, e3, e4, down_at k d _ _ _ (hd.2.2 x hx) e5, down_cp k d _ _ _ (hd.2.2 x hx) e6⟩
    · show ((TrN.alts t).map _).length ≤ _
      rw [List.length_map]; exact hle
theorem size_le_cnt : ∀ (d : Nat) (t : Tr d), sizeM d t ≤ cntM d t
  | 0, t => nomatch t
  | d + 1, t => by
    have e1 : ((TrN.binds t).map fun b => sizeM d b.2).sum ≤ ((TrN.binds t).map fun b => 1 + b.1.size / 64 + cntM d b.2).sum := sum_le (fun x _ => by have := size_le_cnt d x.2; omega)
    have e2 : ((TrN.args t).map (sizeM d)).sum ≤ ((TrN.args t).map (cntM d)).sum := sum_le (fun x _ => size_le_cnt d x)
    have e3 : ((TrN.alts t).map fun a => sizeM d a.2).sum ≤ ((TrN.alts t).map fun a => a.1.vars.length + a.1.name.size / 64 + cntM d a.2 + (a.1.vars.map (fun x => x.size / 64)).sum).sum := sum_le (fun x _ => by have := size_le_cnt d x.2; omega)
    show 1 + _ + _ + _ ≤ 1 + _ + _ + _ + _ + _ + _
    omega
end Go.Proofs.YtjmpjfggbhongaaDoor
namespace Go.Proofs.YtjmpjfggbhongaaDoor
open Go.RowKit Go.Shelf Go.Maps Go.Sort
set_option linter.unusedVariables false
/-- Texts, as a slice. -/
def TxV (W : World) (v : Value) (l : List (List UInt8)) : Prop := ∃ o c, v = .slice o l.length c ∧ (l = [] ∨ ∃ g off, o = some ⟨g, off, none⟩ ∧ g < W.heap.size ∧ ∀ k (h : k < l.length), W.cell? ⟨g, off + k, none⟩ = some (encStr l[k]))
theorem TxV.ofRow {W : World} {B : Nat} {v : Value} {l : List (List UInt8)} (h : W.ownsRow B 9 1 v l.length (l.map encStr)) : TxV W v l := by
  have h2 := h
  rcases h2.2 with ⟨rfl, hz⟩ | ⟨g, cap, cur, rfl, hb, hg, -⟩
  · have : l = [] := List.length_eq_zero_iff.1 hz
    subst this
    exact ⟨none, 0, rfl, .inl rfl⟩
  · refine ⟨_, _, rfl, .inr ⟨g, 0, rfl, (Array.getElem?_eq_some_iff.1 hg).1, fun k hk => ?_⟩⟩
    rw [Nat.zero_add, h.cellAt k (by omega), List.getElem?_map, List.getElem?_eq_getElem hk]
    rfl
end Go.Proofs.YtjmpjfggbhongaaDoor
namespace Go.Proofs.YtjmpjfggbhongaaDoor
open Go.RowKit Go.Shelf Go.Maps Go.Sort
set_option linter.unusedVariables false
theorem allOwn_sz : ∀ (d : Nat) (t : Tr d), WfT d t → ∀ x ∈ allN ownN d t, x.length ≤ LB
  | 0, t, _, _, _ => nomatch t
  | d + 1, t, h, x, hx => by
    obtain ⟨-, h1, -, ⟨-, h3⟩, ⟨-, h4⟩, ⟨-, h5⟩, ⟨-, h6⟩⟩ := h
    have sz : ∀ y : ByteArray, y.size ≤ LB → y.data.toList.length ≤ LB := fun y hy => by rw [Array.length_toList]; exact hy
    have e : allN ownN (d + 1) t = ownN d t ++ ((TrN.binds t).flatMap (fun b => allN ownN d b.2) ++ ((TrN.args t).flatMap (fun e => allN ownN d e) ++ (TrN.alts t).flatMap (fun a => allN ownN d a.2))) := rfl
    rw [e] at hx
    rcases List.mem_append.1 hx with hx | hx
    · unfold ownN at hx
      rcases List.mem_append.1 hx with hx | hx
      · split at hx
        · rw [List.mem_singleton.1 hx]; exact sz _ h1
        · cases hx
      · rcases List.mem_append.1 hx with hx | hx
        · unfold dl at hx
          obtain ⟨y, hy, rfl⟩ := List.mem_map.1 hx
          exact sz _ (h3 y hy)
        · rcases List.mem_append.1 hx with hx | hx
          · unfold dl at hx
            obtain ⟨y, hy, rfl⟩ := List.mem_map.1 hx
            obtain ⟨b, hb, rfl⟩ := List.mem_map.1 hy
            exact sz _ (h4 b hb).1
          · obtain ⟨a, ha, hx⟩ := List.mem_flatMap.1 hx
            unfold dl at hx
            obtain ⟨y, hy, rfl⟩ := List.mem_map.1 hx
            exact sz _ ((h6 a ha).2.2.2.1.2 y hy)
    · rcases List.mem_append.1 hx with hx | hx
      · obtain ⟨b, hb, hx⟩ := List.mem_flatMap.1 hx
        exact allOwn_sz d _ (h4 b hb).2 x hx
      · rcases List.mem_append.1 hx with hx | hx
        · obtain ⟨b, hb, hx⟩ := List.mem_flatMap.1 hx
          exact allOwn_sz d _ (h5 b hb) x hx
        · obtain ⟨b, hb, hx⟩ := List.mem_flatMap.1 hx
          exact allOwn_sz d _ (h6 b hb).2.2.2.2 x hx
theorem VarsAt.ofTx {W : World} {v : Value} {l : List (List UInt8)} (h : TxV W v l) (hn : l = [] → v = .slice none 0 0 ∨ ∃ g c, v = .slice (some ⟨g, 0, none⟩) 0 c) : VarsAt W v (l.map (fun x => ⟨x.toArray⟩)) := by
  obtain ⟨o, c, rfl, h⟩ := h
  rcases h with rfl | ⟨g, off, rfl, -, h⟩
  · rcases hn rfl with e | ⟨g, c', e⟩
    · cases e
      exact ⟨none, 0, rfl, .inl ⟨rfl, rfl, rfl⟩⟩
    · cases e
      exact ⟨_, _, rfl, .inr ⟨g, 0, rfl, fun k hk => by cases hk⟩⟩
  · refine ⟨_, _, by rw [List.length_map], .inr ⟨g, off, rfl, fun k hk => ?_⟩⟩
    rw [List.length_map] at hk
    rw [h k hk, List.getElem_map]
theorem VarsAt.ofRow {W : World} {B : Nat} {v : Value} {l : List (List UInt8)} (h : W.ownsRow B 9 1 v l.length (l.map encStr)) : VarsAt W v (l.map (fun x => ⟨x.toArray⟩)) := by
  refine VarsAt.ofTx (TxV.ofRow h) (fun e => ?_)
  subst e
  rcases h.2 with ⟨rfl, -⟩ | ⟨g, cap, cur, rfl, -⟩
  · exact .inl rfl
  · exact .inr ⟨_, _, rfl⟩
/-- The free names, rising. -/
def fsL (d : Nat) (t : Tr d) : List (List UInt8) := (frL d t).mergeSort leB
theorem fsL_len (d : Nat) (t : Tr d) : (fsL d t).length = (frL d t).length := List.length_mergeSort _
theorem fsL_mem {d : Nat} {t : Tr d} {x : List UInt8} : x ∈ fsL d t ↔ freeM d t [] x = true := by
  rw [fsL, (List.mergeSort_perm _ leB).mem_iff, frL_ok, decide_eq_true_iff]
def FrP (l : List (List UInt8)) (w : World) (r : Ending) (w' : World) : Prop := ∃ v, r = .returned v ∧ w'.ownsRow w.heap.size 9 1 v l.length (l.map encStr) ∧ Below w.heap.size w w'
theorem freeS_c (d : Nat) (a : Tr (d + 1)) (va : Value) (w : World) (ha : ExVal w w.heap.size d a va) (hw : WfT (d + 1) a) (hc : cntM (d + 1) a ≤ 1000) (hd : d + 1 ≤ 4096) : Calls Tryd.prog 22 #[va] w fun r w' => FrP (fsL (d + 1) a) w r w' := by
  have h1 := cost_le_cnt (d + 1) a
  have h2 := frL_len (d + 1) a
  refine (Free_c d a va (frL (d + 1) a) (frL_nodup _ _) (by omega) (fun x => frL_ok _ _ x) w.heap.size w ha (Nat.le_refl _) (nm_of _ _ hw) (by omega) (by omega) hd).mono ?_
  rintro r w' ⟨v, rfl, h3, h4⟩
  exact ⟨v, rfl, by rw [fsL_len]; exact h3, h4⟩
end Go.Proofs.YtjmpjfggbhongaaDoor
