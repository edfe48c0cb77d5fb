/-
  Slices of bytes, and of slices of bytes, that were handed in, opened.
-/
import Derived.Test.YtkjbdjobglnphaaWk
import Derived.ProofKit
import Derived.OpenShut
import Derived.Deep.Slices
namespace Go.Proofs.Ytkjbdjobglnphaa
open Go.ChangeShapes Go.WideShapes Go.ChangeAt Go.RowKit
set_option linter.unusedVariables false

theorem cell_lt {W : World} {b off : Nat} {v : Value} (h : W.cell? ⟨b, off, none⟩ = some v) : b < W.heap.size := by
  by_cases e : b < W.heap.size
  · exact e
  · have : W.heap[b]? = none := Array.getElem?_eq_none (by omega)
    simp [World.cell?, this] at h
/-- A slice, from a block on. -/
theorem at_none {W : World} {a : Addr} {len : Nat} {V : Nat → Value} (h : ∀ i, i < len → W.cell? (a.add i) = some (V i)) (h0 : 0 < len) : ∃ b off, a = ⟨b, off, none⟩ ∧ b < W.heap.size ∧ ∀ i, i < len → W.cell? ⟨b, off + i, none⟩ = some (V i) := by
  obtain ⟨b, off, spot⟩ := a
  have hspot : spot = none := by simpa [Addr.add] using World.cell?_spot (h 0 h0)
  subst hspot
  have h1 : ∀ i, i < len → W.cell? ⟨b, off + i, none⟩ = some (V i) := fun i hi => by have := h i hi; rw [Addr.add_lit] at this; exact this
  exact ⟨b, off, rfl, cell_lt (h1 0 h0), h1⟩
theorem open_byts {H : Type} {enc : TypeId × Value → H} {W : World} {spare : Nat → Bool} {held : Bool} {n : Nat} {cs : List Value} {x : DataW H × List MemPlace} (h : DataW.trod enc Try.prog W 0 spare held n 27 cs = some x) :
    ∃ (v : Value) (l : List Int), cs = [v] ∧ BytV W v l := by
  have hc : Try.prog.cellsOf 5 = 1 := by kernel_rfl
  rcases Go.Deep.open_slice1 Try.underlying27 hc h with ⟨hcs, _⟩ | ⟨a, len, cap, m, k, V, D, Pl, hcs, hb, hl, hm, hmm, hrest, hx⟩
  · exact ⟨_, [], hcs, none, 0, rfl, fun _ => ⟨rfl, rfl⟩, by decide, .inl rfl⟩
  · have hlm : len ≤ m := by rw [hmm]; split <;> omega
    have hall : ∀ i, i < len → ∃ z : Int, V i = .int .u8 z := fun i hi => by
      obtain ⟨z, e, _, hs⟩ := DataW.trod_int Try.underlying5 (hx i (by omega)).2
      exact ⟨z, by simpa using e⟩
    obtain ⟨f, hf⟩ := Go.Deep.choose_lt hall
    have hml : maxLen = 9223372036854775807 := by decide
    refine ⟨_, (List.range len).map f, hcs, some a, cap, by simp, fun e => (by cases e), by simp; omega, ?_⟩
    rcases Nat.eq_zero_or_pos len with h0 | h0
    · subst h0; exact .inl rfl
    · obtain ⟨b, off, e1, e2, e3⟩ := at_none (fun i hi => (hx i (by omega)).1) h0
      refine .inr ⟨b, off, by rw [e1], e2, fun j z hj => ?_⟩
      simp at hj
      obtain ⟨i, hj, rfl⟩ := hj
      obtain ⟨hj1, hj2⟩ := List.getElem?_eq_some_iff.1 hj
      simp at hj1 hj2
      subst hj2
      rw [e3 j hj1, hf j hj1]
theorem open_chunks {H : Type} {enc : TypeId × Value → H} {W : World} {spare : Nat → Bool} {held : Bool} {n : Nat} {cs : List Value} {x : DataW H × List MemPlace} (h : DataW.trod enc Try.prog W 0 spare held n 50 cs = some x) :
    ∃ (o : Option Addr) (c : Nat) (ll : List (List Int)), cs = [.slice o ll.length c] ∧ (ll.length : Int) ≤ 9223372036854775807 ∧ BssAt W o ll := by
  have hc : Try.prog.cellsOf 27 = 1 := by kernel_rfl
  rcases Go.Deep.open_slice1 Try.underlying50 hc h with ⟨hcs, _⟩ | ⟨a, len, cap, m, k, V, D, Pl, hcs, hb, hl, hm, hmm, hrest, hx⟩
  · exact ⟨none, 0, [], hcs, by decide, .inl rfl⟩
  · have hlm : len ≤ m := by rw [hmm]; split <;> omega
    have hall : ∀ i, i < len → ∃ l : List Int, BytV W (V i) l := fun i hi => by
      obtain ⟨v, l, e, hs⟩ := open_byts (hx i (by omega)).2
      have e : V i = v := by simpa using e
      exact ⟨l, by rw [e]; exact hs⟩
    obtain ⟨f, hf⟩ := Go.Deep.choose_lt hall
    have hml : maxLen = 9223372036854775807 := by decide
    refine ⟨some a, cap, (List.range len).map f, by simpa using hcs, by simp; omega, ?_⟩
    rcases Nat.eq_zero_or_pos len with h0 | h0
    · subst h0; exact .inl rfl
    · obtain ⟨b, off, e1, e2, e3⟩ := at_none (fun i hi => (hx i (by omega)).1) h0
      refine .inr ⟨b, off, by rw [e1], e2, fun j l hj => ?_⟩
      simp at hj
      obtain ⟨i, hj, rfl⟩ := hj
      obtain ⟨hj1, hj2⟩ := List.getElem?_eq_some_iff.1 hj
      simp at hj1 hj2
      subst hj2
      exact ⟨V j, e3 j hj1, hf j hj1⟩
end Go.Proofs.Ytkjbdjobglnphaa
