/-
  Package groups: names and uses in memory; the map of places.
-/
import Derived.Test.YtkkpkcigflikkaaHd
import Derived.Deep.OwnRows
namespace Go.Proofs.Ytkkpkcigflikkaa
open Go.RowKit Go.Shelf Go.Maps G
set_option linter.unusedVariables false

def bs (l : List UInt8) : ByteArray := ⟨l.toArray⟩
theorem bs_list (l : List UInt8) : (bs l).data.toList = l := rfl
theorem bs_size (l : List UInt8) : (bs l).size = l.length := by show l.toArray.size = l.length; simp
/-- A slice of texts that can be read. -/
def StrAt (W : World) (v : Value) (l : List (List UInt8)) : Prop := (∃ o cap, v = .slice o l.length cap ∧ l.length ≤ cap ∧ cap ≤ 9223372036854775807 ∧ (l = [] ∨ ∃ g off, o = some ⟨g, off, none⟩ ∧ g < W.heap.size ∧ ∀ j (h : j < l.length), W.cell? ⟨g, off + j, none⟩ = some (.string (bs l[j])))) ∧ ∀ x ∈ l, x.length ≤ 9223372036854775807
/-- A slice of such slices. -/
def UseAt (W : World) (v : Value) (us : List (List (List UInt8))) : Prop := ∃ o cap, v = .slice o us.length cap ∧ us.length ≤ cap ∧ cap ≤ 9223372036854775807 ∧ (us = [] ∨ ∃ g off, o = some ⟨g, off, none⟩ ∧ g < W.heap.size ∧ ∀ j (h : j < us.length), ∃ vj, W.cell? ⟨g, off + j, none⟩ = some vj ∧ StrAt W vj us[j])
theorem StrAt.below {W W' : World} {v : Value} {l : List (List UInt8)} (h : StrAt W v l) {m : Nat} (hb : Below m W W') (hm : W.heap.size ≤ m) : StrAt W' v l := by
  obtain ⟨⟨o, cap, h1, h2, h3, h4⟩, h5⟩ := h
  refine ⟨⟨o, cap, h1, h2, h3, ?_⟩, h5⟩
  rcases h4 with h4 | ⟨g, off, e, hg, h4⟩
  · exact .inl h4
  · exact .inr ⟨g, off, e, Nat.lt_of_lt_of_le hg hb.size, fun j hj => (hb.cell (p := ⟨g, off + j, none⟩) (by show g < m; omega)).trans (h4 j hj)⟩
theorem UseAt.below {W W' : World} {v : Value} {us : List (List (List UInt8))} (h : UseAt W v us) {m : Nat} (hb : Below m W W') (hm : W.heap.size ≤ m) : UseAt W' v us := by
  obtain ⟨o, cap, h1, h2, h3, h4⟩ := h
  refine ⟨o, cap, h1, h2, h3, ?_⟩
  rcases h4 with h4 | ⟨g, off, e, hg, h4⟩
  · exact .inl h4
  · exact .inr ⟨g, off, e, Nat.lt_of_lt_of_le hg hb.size, fun j hj => by
      obtain ⟨vj, h5, h6⟩ := h4 j hj
      exact ⟨vj, (hb.cell (p := ⟨g, off + j, none⟩) (by show g < m; omega)).trans h5, h6.below hb hm⟩⟩
theorem StrAt.slice {W : World} {v : Value} {l : List (List UInt8)} (h : StrAt W v l) : ∃ o cap, v = .slice o l.length cap ∧ l.length ≤ cap ∧ cap ≤ 9223372036854775807 := by
  obtain ⟨⟨o, cap, h1, h2, h3, _⟩, _⟩ := h
  exact ⟨o, cap, h1, h2, h3⟩
theorem StrAt.at {W : World} {v : Value} {l : List (List UInt8)} (h : StrAt W v l) {j : Nat} (hj : j < l.length) : ∃ g off cap, v = .slice (some ⟨g, off, none⟩) l.length cap ∧ g < W.heap.size ∧ W.cell? ⟨g, off + j, none⟩ = some (.string (bs l[j])) ∧ (bs l[j]).size ≤ 9223372036854775807 := by
  obtain ⟨⟨o, cap, h1, h2, h3, h4⟩, h5⟩ := h
  rcases h4 with rfl | ⟨g, off, e, hg, h4⟩
  · exact absurd hj (Nat.not_lt_zero _)
  · subst e
    exact ⟨g, off, cap, h1, hg, h4 j hj, by rw [bs_size]; exact h5 _ (List.getElem_mem hj)⟩
theorem UseAt.slice {W : World} {v : Value} {us : List (List (List UInt8))} (h : UseAt W v us) : ∃ o cap, v = .slice o us.length cap ∧ us.length ≤ cap ∧ cap ≤ 9223372036854775807 := by
  obtain ⟨o, cap, h1, h2, h3, _⟩ := h
  exact ⟨o, cap, h1, h2, h3⟩
theorem UseAt.at {W : World} {v : Value} {us : List (List (List UInt8))} (h : UseAt W v us) {j : Nat} (hj : j < us.length) : ∃ g off cap vj, v = .slice (some ⟨g, off, none⟩) us.length cap ∧ g < W.heap.size ∧ W.cell? ⟨g, off + j, none⟩ = some vj ∧ StrAt W vj us[j] := by
  obtain ⟨o, cap, h1, h2, h3, h4⟩ := h
  rcases h4 with rfl | ⟨g, off, e, hg, h4⟩
  · exact absurd hj (Nat.not_lt_zero _)
  · subst e
    obtain ⟨vj, h5, h6⟩ := h4 j hj
    exact ⟨g, off, cap, vj, h1, hg, h5, h6⟩
def total (us : List (List (List UInt8))) : Nat := (us.map List.length).sum
theorem total_take (us : List (List (List UInt8))) (k : Nat) (hk : k < us.length) : total (us.take (k + 1)) = total (us.take k) + us[k].length := by
  unfold total
  rw [List.take_add_one, List.getElem?_eq_getElem hk, List.map_append, List.sum_append]
  simp only [Option.toList_some, List.map_cons, List.map_nil, List.sum_cons, List.sum_nil, Nat.add_zero]
theorem total_le (us : List (List (List UInt8))) (k : Nat) : total (us.take k) ≤ total us := by
  unfold total
  have h : us = us.take k ++ us.drop k := (List.take_append_drop k us).symm
  conv => rhs; rw [h, List.map_append, List.sum_append]
  exact Nat.le_add_right _ _
theorem mem_total (us : List (List (List UInt8))) (k : Nat) (hk : k < us.length) : us[k].length ≤ total us := by
  have h1 := total_take us k hk
  have h2 := total_le us (k + 1)
  omega

def heldElem (v : Value) : Option (DataW Value × List MemPlace) := some (.held v, [])
theorem heldElem_inv {v u : Value} {ps : List MemPlace} (h : heldElem v = some (.held u, ps)) : v = u := by
  simp [heldElem] at h; exact h.1
theorem key_str (s : ByteArray) (h : s.size ≤ 9223372036854775807) : keyOf Try.prog 9 (.string s) = some (.string s.data.toList) := by
  simp [keyOf, mapKey, Try.underlying9, maxLen, h]
/-- The map of places in memory: of these names. -/
def PM (W : World) (b : Nat) (ms : List (List UInt8)) : Prop := ∃ (c : Nat) (D : DataW Value), c ≤ ms.length ∧ W.ownsMap Try.prog 9 heldElem b c D ∧ IsMap D ∧ (∀ x, Maps.has D (.string x) = decide (x ∈ ms)) ∧ (ms.Nodup → ∀ p (h : p < ms.length) z, D.atKey (.string ms[p]) z = .held (nv p)) ∧ Maps.size D ≤ ms.length ∧ (Maps.size D = ms.length ↔ ms.Nodup)
theorem PM.lt {W : World} {b : Nat} {ms : List (List UInt8)} (h : PM W b ms) : b < W.heap.size := by
  obtain ⟨c, D, _, h1, _⟩ := h
  exact h1.lt
theorem PM.same {W W' : World} {b : Nat} {ms : List (List UInt8)} (h : PM W b ms) (hb : W'.heap[b]? = W.heap[b]?) : PM W' b ms := by
  obtain ⟨c, D, h0, ⟨es, clock, k1, k2⟩, h2⟩ := h
  exact ⟨c, D, h0, ⟨es, clock, hb.trans k1, k2⟩, h2⟩
theorem pm_new (W : World) : PM (W.alloc (.map #[] 0)) W.heap.size [] := ⟨0, .map [], Nat.le_refl _, World.ownsMap_made W Try.prog 9 heldElem, ⟨_, rfl⟩, fun x => rfl, fun _ p h => absurd h (Nat.not_lt_zero _), Nat.le_refl _, ⟨fun _ => .nil, fun _ => rfl⟩⟩
theorem zeroInt (w : World) : (zeroValue 3).run Try.prog w = .ok (.int .i64 0) w := by kernel_rfl
theorem PM.upd {W : World} {b : Nat} {ms : List (List UInt8)} (h : PM W b ms) (hc : ms.length ≤ 100000) (nm : List UInt8) (hs : (bs nm).size ≤ 9223372036854775807) :
    ∃ W', (Instr.mapUpdate 39 (.map (some b)) (.string (bs nm)) (.int .i64 (ms.length : Int))).run Try.prog W = .ok () W' ∧ PM W' b (ms ++ [nm]) ∧ W.grownBy W' (some b) := by
  obtain ⟨c, D, h0, hown, hD, hhas, hat, hsz, hnd⟩ := h
  obtain ⟨W', hrun, r1, r2⟩ := hown.update (string_keyed Try.underlying9) Try.underlying39 (by unfold maxLen; omega) (key_str (bs nm) hs) (show heldElem (nv ms.length) = some (.held (nv ms.length), []) from rfl)
  rw [bs_list] at r1
  have htidy := hown.tidy (string_keyed Try.underlying9)
  have hput := Maps.size_put (k := .string nm) htidy (.held (nv ms.length))
  rw [hhas nm] at hput
  refine ⟨W', hrun, ⟨c + 1, _, by simp; omega, r1, ?_, fun x => ?_, fun hn p hp z => ?_, ?_, ?_⟩, r2⟩
  · obtain ⟨es, rfl⟩ := hD
    exact ⟨_, rfl⟩
  · by_cases hx : x = nm
    · subst hx
      rw [Maps.has_put_same hD (by constructor)]; simp
    · rw [Maps.has_put_other (by simpa using hx), hhas x]; simp [hx]
  · have hn2 := List.nodup_append.1 hn
    by_cases hpl : p < ms.length
    · have hne : ms[p] ≠ nm := hn2.2.2 _ (List.getElem_mem hpl) _ (by simp)
      have e : (ms ++ [nm])[p] = ms[p] := List.getElem_append_left hpl
      rw [e, Maps.atKey_put_other (by simpa using hne)]
      exact hat hn2.1 p hpl z
    · have hpe : p = ms.length := by simp at hp; omega
      subst hpe
      have e : (ms ++ [nm])[ms.length] = nm := by simp
      rw [e]
      exact Maps.atKey_put_same hD (by constructor) _ _
  · rw [hput]; simp; split <;> omega
  · rw [hput]
    by_cases hx : nm ∈ ms
    · simp only [hx, decide_true, if_true, List.length_append, List.length_cons, List.length_nil]
      constructor
      · intro e; omega
      · intro hn
        exact absurd rfl ((List.nodup_append.1 hn).2.2 nm hx nm (by simp))
    · simp only [hx, decide_false, List.length_append, List.length_cons, List.length_nil]
      constructor
      · intro e
        have : ms.Nodup := hnd.1 (by simpa using e)
        exact List.nodup_append.2 ⟨this, by simp, fun a ha b hb => by simp at hb; subst hb; intro e2; exact hx (e2 ▸ ha)⟩
      · intro hn
        have := hnd.2 (List.nodup_append.1 hn).1
        simpa using this
/-- Where a name stands. -/
def ixO (ns : List (List UInt8)) (x : List UInt8) : Option Nat := if x ∈ ns then some (ns.idxOf x) else none
theorem PM.look {W : World} {b : Nat} {ms : List (List UInt8)} (h : PM W b ms) (hn : ms.Nodup) (nm : List UInt8) (hs : (bs nm).size ≤ 9223372036854775807) :
    (∃ p, ixO ms nm = some p ∧ p < ms.length ∧ (Instr.lookup 39 (.map (some b)) (.string (bs nm)) true).run Try.prog W = .ok (.tuple #[.int .i64 (p : Int), .bool true]) W) ∨ (ixO ms nm = none ∧ (Instr.lookup 39 (.map (some b)) (.string (bs nm)) true).run Try.prog W = .ok (.tuple #[.int .i64 0, .bool false]) W) := by
  obtain ⟨c, D, h0, hown, hD, hhas, hat, hsz, hnd⟩ := h
  obtain ⟨v, ps, hrun, hv⟩ := hown.look_ok (string_keyed Try.underlying9) Try.underlying39 (zeroInt W) (zd := .held (.int .i64 0)) (zp := []) rfl (key_str (bs nm) hs)
  rw [bs_list, hhas nm] at hrun
  rw [bs_list] at hv
  by_cases hx : nm ∈ ms
  · left
    have hlt : ms.idxOf nm < ms.length := List.idxOf_lt_length_iff.2 hx
    have hg : ms[ms.idxOf nm] = nm := List.getElem_idxOf hlt
    have h2 := hat hn (ms.idxOf nm) hlt (.held (.int .i64 0))
    rw [hg] at h2
    rw [h2] at hv
    rw [heldElem_inv hv, decide_eq_true hx] at hrun
    exact ⟨ms.idxOf nm, by unfold ixO; rw [if_pos hx], hlt, hrun⟩
  · right
    have h1 := hhas nm
    rw [decide_eq_false hx] at h1
    rw [Maps.atKey_of_not_has h1] at hv
    rw [heldElem_inv hv, decide_eq_false hx] at hrun
    exact ⟨by unfold ixO; rw [if_neg hx], hrun⟩
theorem PM.len {W : World} {b : Nat} {ms : List (List UInt8)} (h : PM W b ms) (ty : TypeId) : ∃ k : Nat, (Builtin.len_ #[39] ty #[.map (some b)]).run Try.prog W = .ok (.int .i64 (k : Int)) W ∧ k ≤ ms.length ∧ (k = ms.length ↔ ms.Nodup) := by
  obtain ⟨c, D, h0, hown, hD, hhas, hat, hsz, hnd⟩ := h
  exact ⟨Maps.size D, hown.len Try.underlying39 ty, hsz, hnd⟩
theorem mm_run (n : Nat) (W : World) (hn : n ≤ 4611686018427387904) : (Instr.makeMap 39 (some (.int .i64 n))).run Try.prog W = .ok (.map (some W.heap.size)) (W.alloc (.map #[] 0)) := by
  simp [Instr.makeMap, go_sem]
end Go.Proofs.Ytkkpkcigflikkaa
