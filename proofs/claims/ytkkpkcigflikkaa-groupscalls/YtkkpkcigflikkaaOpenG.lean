/-
  Slices of texts, of slices of texts, of numbers, that were handed in, opened.
-/
import Derived.Test.YtkkpkcigflikkaaLa
import Derived.ProofKit
import Derived.OpenShut
import Derived.Deep.Slices
namespace Go.Proofs.Ytkkpkcigflikkaa
open Go.ChangeShapes Go.WideShapes Go.ChangeAt Go.RowKit
set_option linter.unusedVariables false

theorem cell_lt {W : World} {b off : Nat} {v : Value} (h : W.cell? ⟨b, off, none⟩ = some v) : b < W.heap.size := by
  by_cases e : b < W.heap.size
  · exact e
  · have : W.heap[b]? = none := Array.getElem?_eq_none (by omega)
    simp [World.cell?, this] at h
/-- A slice, from a block on. -/
theorem at_none {W : World} {a : Addr} {len : Nat} {V : Nat → Value} (h : ∀ i, i < len → W.cell? (a.add i) = some (V i)) (h0 : 0 < len) : ∃ b off, a = ⟨b, off, none⟩ ∧ b < W.heap.size ∧ ∀ i, i < len → W.cell? ⟨b, off + i, none⟩ = some (V i) := by
  obtain ⟨b, off, spot⟩ := a
  have hspot : spot = none := by simpa [Addr.add] using World.cell?_spot (h 0 h0)
  subst hspot
  have h1 : ∀ i, i < len → W.cell? ⟨b, off + i, none⟩ = some (V i) := fun i hi => by have := h i hi; rw [Addr.add_lit] at this; exact this
  exact ⟨b, off, rfl, cell_lt (h1 0 h0), h1⟩
theorem open_strs {H : Type} {enc : TypeId × Value → H} {W : World} {spare : Nat → Bool} {held : Bool} {n : Nat} {cs : List Value} {x : DataW H × List MemPlace} (h : DataW.trod enc Try.prog W 0 spare held n 26 cs = some x) :
    ∃ (v : Value) (l : List (List UInt8)), cs = [v] ∧ StrAt W v l := by
  have hc : Try.prog.cellsOf 9 = 1 := by kernel_rfl
  rcases Go.Deep.open_slice1 Try.underlying26 hc h with ⟨hcs, _⟩ | ⟨a, len, cap, m, k, V, D, Pl, hcs, hb, hl, hm, hmm, hrest, hx⟩
  · exact ⟨_, [], hcs, ⟨none, 0, rfl, Nat.le_refl _, by decide, .inl rfl⟩, fun x h => (by cases h)⟩
  · have hlm : len ≤ m := by rw [hmm]; split <;> omega
    have hall : ∀ i, i < len → ∃ s : ByteArray, V i = .string s ∧ s.size ≤ maxLen := fun i hi => by
      obtain ⟨s, e, _, hs⟩ := DataW.trod_string Try.underlying9 (hx i (by omega)).2
      exact ⟨s, by simpa using e, hs⟩
    haveI : Inhabited ByteArray := ⟨⟨#[]⟩⟩
    obtain ⟨f, hf⟩ := Go.Deep.choose_lt hall
    have hml : maxLen = 9223372036854775807 := by decide
    refine ⟨_, (List.range len).map (fun i => (f i).data.toList), hcs, ⟨some a, cap, by simp, by simp; omega, by omega, ?_⟩, ?_⟩
    · rcases Nat.eq_zero_or_pos len with h0 | h0
      · subst h0; exact .inl rfl
      · obtain ⟨b, off, e1, e2, e3⟩ := at_none (fun i hi => (hx i (by omega)).1) h0
        refine .inr ⟨b, off, by rw [e1], e2, fun j hj => ?_⟩
        simp only [List.length_map, List.length_range] at hj
        rw [e3 j hj, (hf j hj).1]
        simp [bs]
    · intro x hx
      obtain ⟨i, hi, rfl⟩ := List.mem_map.1 hx
      have h1 := (hf i (by simpa using hi)).2
      have h2 : (f i).data.toList.length = (f i).size := by rw [Array.length_toList]; rfl
      omega
theorem open_uses {H : Type} {enc : TypeId × Value → H} {W : World} {spare : Nat → Bool} {held : Bool} {n : Nat} {cs : List Value} {x : DataW H × List MemPlace} (h : DataW.trod enc Try.prog W 0 spare held n 27 cs = some x) :
    ∃ (v : Value) (us : List (List (List UInt8))), cs = [v] ∧ UseAt W v us := by
  have hc : Try.prog.cellsOf 26 = 1 := by kernel_rfl
  rcases Go.Deep.open_slice1 Try.underlying27 hc h with ⟨hcs, _⟩ | ⟨a, len, cap, m, k, V, D, Pl, hcs, hb, hl, hm, hmm, hrest, hx⟩
  · exact ⟨_, [], hcs, none, 0, rfl, Nat.le_refl _, by decide, .inl rfl⟩
  · have hlm : len ≤ m := by rw [hmm]; split <;> omega
    have hall : ∀ i, i < len → ∃ l : List (List UInt8), StrAt W (V i) l := fun i hi => by
      obtain ⟨v, l, e, hs⟩ := open_strs (hx i (by omega)).2
      have e : V i = v := by simpa using e
      exact ⟨l, by rw [e]; exact hs⟩
    obtain ⟨f, hf⟩ := Go.Deep.choose_lt hall
    have hml : maxLen = 9223372036854775807 := by decide
    refine ⟨_, (List.range len).map f, hcs, some a, cap, by simp, by simp; omega, by omega, ?_⟩
    rcases Nat.eq_zero_or_pos len with h0 | h0
    · subst h0; exact .inl rfl
    · obtain ⟨b, off, e1, e2, e3⟩ := at_none (fun i hi => (hx i (by omega)).1) h0
      refine .inr ⟨b, off, by rw [e1], e2, fun j hj => ?_⟩
      simp only [List.length_map, List.length_range] at hj
      refine ⟨V j, e3 j hj, ?_⟩
      simpa using hf j hj
/-- A slice of numbers that can be read. -/
def NumAt (W : World) (v : Value) (l : List Int) : Prop := ∃ o cap, v = .slice o l.length cap ∧ l.length ≤ cap ∧ cap ≤ 9223372036854775807 ∧ (l = [] ∨ ∃ g off, o = some ⟨g, off, none⟩ ∧ g < W.heap.size ∧ ∀ j (h : j < l.length), W.cell? ⟨g, off + j, none⟩ = some (.int .i64 l[j])) ∧ ∀ x ∈ l, (-9223372036854775808 : Int) ≤ x ∧ x ≤ 9223372036854775807
theorem NumAt.below {W W' : World} {v : Value} {l : List Int} (h : NumAt W v l) {m : Nat} (hb : Below m W W') (hm : W.heap.size ≤ m) : NumAt W' v l := by
  obtain ⟨o, cap, h1, h2, h3, h4, h5⟩ := h
  refine ⟨o, cap, h1, h2, h3, ?_, h5⟩
  rcases h4 with h4 | ⟨g, off, e, hg, h4⟩
  · exact .inl h4
  · exact .inr ⟨g, off, e, Nat.lt_of_lt_of_le hg hb.size, fun j hj => (hb.cell (p := ⟨g, off + j, none⟩) (by show g < m; omega)).trans (h4 j hj)⟩
theorem open_nums {H : Type} {enc : TypeId × Value → H} {W : World} {spare : Nat → Bool} {held : Bool} {n : Nat} {cs : List Value} {x : DataW H × List MemPlace} (h : DataW.trod enc Try.prog W 0 spare held n 30 cs = some x) :
    ∃ (v : Value) (l : List Int), cs = [v] ∧ NumAt W v l := by
  have hc : Try.prog.cellsOf 3 = 1 := by kernel_rfl
  rcases Go.Deep.open_slice1 Try.underlying30 hc h with ⟨hcs, _⟩ | ⟨a, len, cap, m, k, V, D, Pl, hcs, hb, hl, hm, hmm, hrest, hx⟩
  · exact ⟨_, [], hcs, none, 0, rfl, Nat.le_refl _, by decide, .inl rfl, fun x h => (by cases h)⟩
  · have hlm : len ≤ m := by rw [hmm]; split <;> omega
    have hall : ∀ i, i < len → ∃ z : Int, V i = .int .i64 z ∧ Lit.wf (.int .i64 z) = true := fun i hi => by
      obtain ⟨z, e, _, hs⟩ := DataW.trod_int Try.underlying3 (hx i (by omega)).2
      exact ⟨z, by simpa using e, hs⟩
    obtain ⟨f, hf⟩ := Go.Deep.choose_lt hall
    have hml : maxLen = 9223372036854775807 := by decide
    refine ⟨_, (List.range len).map f, hcs, some a, cap, by simp, by simp; omega, by omega, ?_, ?_⟩
    · rcases Nat.eq_zero_or_pos len with h0 | h0
      · subst h0; exact .inl rfl
      · obtain ⟨b, off, e1, e2, e3⟩ := at_none (fun i hi => (hx i (by omega)).1) h0
        refine .inr ⟨b, off, by rw [e1], e2, fun j hj => ?_⟩
        simp only [List.length_map, List.length_range] at hj
        rw [e3 j hj, (hf j hj).1]
        simp
    · intro x hx
      obtain ⟨i, hi, rfl⟩ := List.mem_map.1 hx
      have h1 := (hf i (by simpa using hi)).2
      simp [Lit.wf, IntKind.min, IntKind.max, IntKind.signed, IntKind.bits] at h1
      omega
end Go.Proofs.Ytkkpkcigflikkaa
