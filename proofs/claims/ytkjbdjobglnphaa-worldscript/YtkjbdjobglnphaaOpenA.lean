/-
  A slice of calls that was handed in, opened.
-/
import Derived.Test.YtkjbdjobglnphaaXm
import Derived.Test.YtkjbdjobglnphaaOpenB
namespace Go.Proofs.Ytkjbdjobglnphaa
open Go.ChangeShapes Go.WideShapes Go.ChangeAt Go.RowKit
set_option linter.unusedVariables false
def atC (a : AT) : List Value := [.int .i64 a.k, .slice a.o a.l.length a.cap, .int .u8 a.c, .int .i64 a.n]
theorem list4 {α : Type} : ∀ {l : List α}, l.length = 4 → ∃ c0 c1 c2 c3, l = [c0, c1, c2, c3]
  | [c0, c1, c2, c3], _ => ⟨c0, c1, c2, c3, rfl⟩
set_option maxRecDepth 100000 in
theorem open_at {H : Type} {enc : TypeId × Value → H} {w : World} {spare : Nat → Bool} {held : Bool} {n : Nat} {cs : List Value} {x : DataW H × List MemPlace} (h : DataW.trod enc Try.prog w 0 spare held n 34 cs = some x) :
    ∃ a : AT, cs = atC a ∧ (a.o = none → a.l = [] ∧ a.cap = 0) ∧ BytAt w a.o a.l := by
  obtain ⟨xs, m, _, rfl, hl, hlen, hf⟩ := DataW.trod_struct Try.underlying34 h
  have hc : Try.prog.cellsOf 34 = 4 := by kernel_rfl
  rw [hc] at hl
  obtain ⟨c0, c1, c2, c3, rfl⟩ := list4 hl
  obtain ⟨x0, x1, x2, x3, rfl⟩ := list4 (show xs.length = 4 from hlen)
  have k3 : Try.prog.cellsOf 3 = 1 := by kernel_rfl
  have k5 : Try.prog.cellsOf 5 = 1 := by kernel_rfl
  have k27 : Try.prog.cellsOf 27 = 1 := by kernel_rfl
  have h0 : DataW.trod enc Try.prog w 0 spare held m 3 (([c0, c1, c2, c3].drop 0).take (Try.prog.cellsOf 3)) = some x0 := hf 0 _ rfl
  have h1 : DataW.trod enc Try.prog w 0 spare held m 27 (([c0, c1, c2, c3].drop 1).take (Try.prog.cellsOf 27)) = some x1 := hf 1 _ rfl
  have h2 : DataW.trod enc Try.prog w 0 spare held m 5 (([c0, c1, c2, c3].drop 2).take (Try.prog.cellsOf 5)) = some x2 := hf 2 _ rfl
  have h3 : DataW.trod enc Try.prog w 0 spare held m 3 (([c0, c1, c2, c3].drop 3).take (Try.prog.cellsOf 3)) = some x3 := hf 3 _ rfl
  clear hf
  rw [k3] at h0 h3
  rw [k27] at h1
  rw [k5] at h2
  obtain ⟨a0, e0, _, _⟩ := DataW.trod_int Try.underlying3 h0
  obtain ⟨v1, l, e1, o, c, rfl, ho, -, hb⟩ := open_byts h1
  obtain ⟨a2, e2, _, _⟩ := DataW.trod_int Try.underlying5 h2
  obtain ⟨a3, e3, _, _⟩ := DataW.trod_int Try.underlying3 h3
  simp only [List.drop_succ_cons, List.drop_zero, List.take_succ_cons, List.take_zero, List.cons.injEq, and_true] at e0 e1 e2 e3
  subst e0 e1 e2 e3
  exact ⟨⟨a0, o, c, l, a2, a3⟩, rfl, ho, hb⟩
set_option maxRecDepth 100000 in
theorem open_ats {H : Type} {enc : TypeId × Value → H} {W : World} {v : Value} {d : DataW H} {p : List MemPlace} {base : Nat} (hv : Value.okWide Try.prog W .any base 32 v) (h : DataW.Trod enc Try.prog W 0 (fun _ => true) true 32 v d p) :
    ∃ (aL : List AT) (o : Option Addr) (cap : Nat), v = .slice o aL.length cap ∧ AsAt W o aL ∧ (aL.length : Int) ≤ 9223372036854775807 := by
  obtain ⟨a0, len0, cap0, rfl⟩ := okWide_slice Try.underlying32 hv
  obtain ⟨fuel, hf⟩ := h
  have hc : Try.prog.cellsOf 34 = 4 := by kernel_rfl
  have hml : maxLen = 9223372036854775807 := by decide
  rcases Go.Deep.open_slice Try.underlying32 hf with ⟨hcs, _⟩ | ⟨a, len, cap, m, n, D, Pl, hcs, hb, hl, hm, hmm, _, hx⟩
  · simp [Value.cells] at hcs
    obtain ⟨rfl, rfl, rfl⟩ := hcs
    exact ⟨[], none, 0, rfl, .inl rfl, by decide⟩
  · simp [Value.cells] at hcs
    obtain ⟨rfl, rfl, rfl⟩ := hcs
    rw [hc] at hx
    have hlm : len0 ≤ m := by rw [hmm]; simpa using hl
    have hall : ∀ i, i < len0 → ∃ t : AT, W.cells? 0 (a.add (i * 4)) 4 = some (atC t) ∧ (t.o = none → t.l = [] ∧ t.cap = 0) ∧ BytAt W t.o t.l := by
      intro i hi
      obtain ⟨cs', h1, h2⟩ := hx i (by omega)
      obtain ⟨t, rfl, h3⟩ := open_at h2
      exact ⟨t, h1, h3⟩
    haveI : Inhabited AT := ⟨⟨0, none, 0, [], 0, 0⟩⟩
    obtain ⟨f, hf2⟩ := Go.Deep.choose_lt hall
    refine ⟨(List.range len0).map f, some a, cap0, by simp, ?_, by simp; omega⟩
    rcases Nat.eq_zero_or_pos len0 with h0 | h0
    · subst h0; exact .inl rfl
    · right
      obtain ⟨b, off, spot⟩ := a
      have hcell : ∀ i, i < len0 → ∀ q u, (atC (f i))[q]? = some u → W.cell? ((⟨b, off, spot⟩ : Addr).add (i * 4 + q)) = some u := by
        intro i hi q u hu
        have h1 := World.cells?_some (hf2 i hi).1
        have hq : q < 4 := (List.getElem?_eq_some_iff.1 hu).1
        have h2 := h1.2.2 q hq
        rw [hu, Go.Deep.add_add] at h2
        exact h2
      have hspot : spot = none := by simpa [Addr.add] using World.cell?_spot (hcell 0 h0 0 _ rfl)
      subst hspot
      refine ⟨b, off, rfl, ?_, ?_⟩
      · have h1 := World.cells?_block (hf2 0 h0).1 (by omega)
        rw [Addr.add_lit] at h1
        exact h1
      · intro k t hk
        simp at hk
        obtain ⟨i, hk, rfl⟩ := hk
        obtain ⟨hk1, hk2⟩ := List.getElem?_eq_some_iff.1 hk
        simp at hk1 hk2
        subst hk2
        have e0 := hcell k hk1 0 _ rfl
        have e1 := hcell k hk1 1 _ rfl
        have e2 := hcell k hk1 2 _ rfl
        have e3 := hcell k hk1 3 _ rfl
        rw [Addr.add_lit, ← Nat.add_assoc] at e0 e1 e2 e3
        exact ⟨e0, e1, e2, e3, (hf2 k hk1).2⟩
end Go.Proofs.Ytkjbdjobglnphaa
