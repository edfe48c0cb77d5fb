/-
  Package groups: the heap of turns in memory; its small methods, by contracts.
-/
import Derived.Test.YtkkpkcigflikkaaHd
import Derived.Test.YtkkpkcigflikkaaKa
namespace Go.Proofs.Ytkkpkcigflikkaa
open Go.RowKit Go.Shelf Go.Maps G
set_option linter.unusedVariables false

/-- The heap in memory. -/
structure TurnAt (W : World) (T : Nat) (v : Value) (l : List Nat) : Prop where
  b : Blk W T #[v] 60
  r : W.ownsRow (T + 1) 3 1 v l.length (l.map nv)
def tP (T : Nat) : Value := .pointer (some ⟨T, 0, none⟩)
theorem TurnAt.cell {W : World} {T : Nat} {v : Value} {l : List Nat} (h : TurnAt W T v l) {i : Nat} (hi : i < l.length) : ∃ g cap, v = .slice (some ⟨g, 0, none⟩) l.length cap ∧ T < g ∧ g < W.heap.size ∧ l.length ≤ cap ∧ cap ≤ 9223372036854775807 ∧ (∀ j, j < l.length → W.cell? ⟨g, j, none⟩ = some (.int .i64 ((l.getD j 0 : Nat) : Int))) ∧ (∀ j, W.frozen? ⟨g, j, none⟩ = false) := by
  obtain ⟨g, cap, e, h1, h2⟩ := h.r.form (by omega)
  have hr := owns_row (b' := W.heap.size) h.r (fun g hg => (owns_lt h.r hg).2)
  obtain ⟨o, c, e1, e2, e3⟩ := owns_form h.r
  subst e
  refine ⟨g, cap, rfl, h1, h2, ?_, ?_, fun j hj => ?_, fun j => ?_⟩
  · cases e1; exact e2
  · cases e1; exact e3
  · obtain ⟨g1, c1, e4, _, _, _, _, h3⟩ := hr.at hj
    cases e4
    rw [List.getD_eq_getElem?_getD, List.getElem?_eq_getElem hj]; exact h3
  · rcases h.r with ⟨_, ⟨h5, _⟩ | ⟨g', cap', cur, h5, _, h6, _⟩⟩
    · cases h5
    · cases h5; exact Blk.frozen (vs := cur) h6 j
theorem TurnAt.drew {W : World} {T : Nat} {v : Value} {l : List Nat} (h : TurnAt W T v l) : TurnAt W.drew T v l := ⟨h.b, h.r⟩
theorem TurnAt.swap {W : World} {T g cap : Nat} {l : List Nat} {i j : Nat} (h : TurnAt W T (.slice (some ⟨g, 0, none⟩) l.length cap) l) (hi : i < l.length) (hj : j < l.length) : TurnAt ((W.setCell ⟨g, i, none⟩ (nv (l.getD j 0))).setCell ⟨g, j, none⟩ (nv (l.getD i 0))) T (.slice (some ⟨g, 0, none⟩) l.length cap) (sw l i j) := by
  have hg : T + 1 ≤ g := (owns_lt h.r rfl).1
  refine ⟨h.b.same ((heap_set_other _ _ _ _ _ (by omega)).trans (heap_set_other _ _ _ _ _ (by omega))), ?_⟩
  have h1 := owns_set (i := j) (nv (l.getD i 0)) (owns_set (i := i) (nv (l.getD j 0)) h.r)
  rw [sw_len]
  have e : ((l.map nv).set i (nv (l.getD j 0))).set j (nv (l.getD i 0)) = (sw l i j).map nv := by
    unfold sw; rw [List.map_set, List.map_set]
  rw [e] at h1
  exact h1
/-- What the heap's functions leave alone: all but the heap and its row. -/
structure Fr (T : Nat) (v : Value) (w W : World) (v' : Value) : Prop where
  size : w.heap.size ≤ W.heap.size
  blk : ∀ k, k < w.heap.size → k ≠ T → v.ownBlock ≠ some k → W.heap[k]? = w.heap[k]?
  own : ∀ g, v'.ownBlock = some g → v.ownBlock = some g ∨ w.heap.size ≤ g
theorem Fr.refl (T : Nat) (v : Value) (w : World) : Fr T v w w v := ⟨Nat.le_refl _, fun _ _ _ _ => rfl, fun g h => .inl h⟩
theorem Fr.below {T : Nat} {v : Value} {w W : World} (h : Below w.heap.size w W) : Fr T v w W v := ⟨h.size, fun k hk _ _ => h.block k hk, fun g h => .inl h⟩
theorem Fr.drew {T : Nat} {v v' : Value} {w W : World} (h : Fr T v w W v') : Fr T v w W.drew v' := ⟨h.size, h.blk, h.own⟩
theorem Fr.trans {T : Nat} {v v1 v2 : Value} {w W1 W2 : World} (h : Fr T v w W1 v1) (k : Fr T v1 W1 W2 v2) : Fr T v w W2 v2 := by
  refine ⟨Nat.le_trans h.size k.size, fun i h1 h2 h3 => ?_, fun g hg => ?_⟩
  · refine (k.blk i (Nat.lt_of_lt_of_le h1 h.size) h2 (fun e => ?_)).trans (h.blk i h1 h2 h3)
    rcases h.own i e with h4 | h4
    · exact h3 h4
    · omega
  · rcases k.own g hg with h4 | h4
    · exact h.own g h4
    · have := h.size; exact .inr (by omega)
theorem Fr.set {T g i : Nat} {v v' : Value} {w W : World} (h : Fr T v w W v') (hg : g = T ∨ v.ownBlock = some g) (x : Value) : Fr T v w (W.setCell ⟨g, i, none⟩ x) v' :=
  ⟨by rw [size_set]; exact h.size, fun k h1 h2 h3 => (heap_set_other _ _ _ _ _ (fun e => by subst e; rcases hg with h4 | h4; exact h2 h4; exact h3 h4)).trans (h.blk k h1 h2 h3), h.own⟩
theorem methPush (T : Nat) (w : World) : (method 231 69 (.pointer (some ⟨T, 0, none⟩)) "Push").run Try.prog w = .ok (92, .pointer (some ⟨T, 0, none⟩)) w := by kernel_rfl
theorem methPop (T : Nat) (w : World) : (method 231 69 (.pointer (some ⟨T, 0, none⟩)) "Pop").run Try.prog w = .ok (91, .pointer (some ⟨T, 0, none⟩)) w := by kernel_rfl
theorem nilPush (T : Nat) (w : World) : (nilAhead 231 69 (.pointer (some ⟨T, 0, none⟩)) "Push").run Try.prog w = .ok (some false) w := by kernel_rfl
theorem nilPop (T : Nat) (w : World) : (nilAhead 231 69 (.pointer (some ⟨T, 0, none⟩)) "Pop").run Try.prog w = .ok (some false) w := by kernel_rfl
theorem nilLen (T : Nat) (w : World) : (nilAhead 231 69 (.pointer (some ⟨T, 0, none⟩)) "Len").run Try.prog w = .ok (some false) w := by kernel_rfl
theorem nilLess (T : Nat) (w : World) : (nilAhead 231 69 (.pointer (some ⟨T, 0, none⟩)) "Less").run Try.prog w = .ok (some false) w := by kernel_rfl
theorem nilSwap (T : Nat) (w : World) : (nilAhead 231 69 (.pointer (some ⟨T, 0, none⟩)) "Swap").run Try.prog w = .ok (some false) w := by kernel_rfl
theorem loadT {w : World} {T : Nat} {v : Value} (h : w.cell? ⟨T, 0, none⟩ = some v) : (loadVar 58 ⟨T, 0, none⟩).run Try.prog w = .ok v w := by
  simp [go_sem, h]
theorem followT (T : Nat) (w : World) : (follow [⟨60, 0, true⟩] 69 (.val (.pointer (some ⟨T, 0, none⟩)))).run Try.prog w = .ok (58, .var ⟨T, 0, none⟩) w := by kernel_rfl
theorem recvT (T : Nat) (w : World) : (receiverAt 58 (.var ⟨T, 0, none⟩) false none).run Try.prog w = (loadVar 58 ⟨T, 0, none⟩).run Try.prog w := by kernel_rfl
theorem meth_of {name : String} {sig : TypeId} {f : FuncId} (hm : (Try.prog.info? 69).map (fun i => i.methods.find? (·.name == name)) = some (some { name := name, sig := sig, path := #[⟨60, 0, true⟩], func := some (f, false) })) {w : World} {T : Nat} {v : Value} (h : w.cell? ⟨T, 0, none⟩ = some v) : (method 231 69 (.pointer (some ⟨T, 0, none⟩)) name).run Try.prog w = .ok (f, v) w := by
  obtain ⟨i, h1, h2⟩ := Option.map_eq_some_iff.1 hm
  have hti : (typeInfo 69).run Try.prog w = .ok i w := by simp [typeInfo, h1]
  have hl := loadT h
  obtain ⟨k, hk⟩ : ∃ k, 231 = k + 1 := ⟨231 - 1, rfl⟩
  rw [hk]
  unfold method
  simp only [Sem.run_bind, hti, Result.andThen_ok, h2, followT, Sem.run_pure]
  have he : (#[(⟨60, 0, true⟩ : FieldStep)]).isEmpty = false := rfl
  simp [he, recvT, hl]
theorem methLen {w : World} {T : Nat} {v : Value} (h : w.cell? ⟨T, 0, none⟩ = some v) : (method 231 69 (.pointer (some ⟨T, 0, none⟩)) "Len").run Try.prog w = .ok (33, v) w := meth_of (sig := 62) (by kernel_rfl) h
theorem methLess {w : World} {T : Nat} {v : Value} (h : w.cell? ⟨T, 0, none⟩ = some v) : (method 231 69 (.pointer (some ⟨T, 0, none⟩)) "Less").run Try.prog w = .ok (88, v) w := meth_of (sig := 92) (by kernel_rfl) h
theorem methSwap {w : World} {T : Nat} {v : Value} (h : w.cell? ⟨T, 0, none⟩ = some v) : (method 231 69 (.pointer (some ⟨T, 0, none⟩)) "Swap").run Try.prog w = .ok (90, v) w := meth_of (sig := 83) (by kernel_rfl) h
end Go.Proofs.Ytkkpkcigflikkaa
