/-
  A slice of simple values that was handed in, opened.
-/
import Derived.Test.YtijafedpaghhaaaDoorPf
import Derived.ProofKit
import Derived.OpenShut
import Derived.Deep.Slices
namespace Go.Proofs.YtijafedpaghhaaaDoor
open Go.ChangeShapes Go.WideShapes Go.ChangeAt Go.RowKit
set_option linter.unusedVariables false

def ptC (p : PT) : List Value := [.int .i64 p.k, .int .i64 p.n, .string p.t]
theorem list3 {α : Type} : ∀ {l : List α}, l.length = 3 → ∃ c0 c1 c2, l = [c0, c1, c2]
  | [c0, c1, c2], _ => ⟨c0, c1, c2, rfl⟩
set_option maxRecDepth 100000 in
theorem open_pt {H : Type} {enc : TypeId × Value → H} {w : World} {base : Nat} {spare : Nat → Bool} {held : Bool} {n : Nat} {cs : List Value} {x : DataW H × List MemPlace} (h : DataW.trod enc Tryd.prog w base spare held n 26 cs = some x) :
    ∃ p : PT, cs = ptC p ∧ Lit.wf (.int .i64 p.n) = true := by
  obtain ⟨xs, m, _, rfl, hl, hlen, hf⟩ := DataW.trod_struct Tryd.underlying26 h
  have hc : Tryd.prog.cellsOf 26 = 3 := by kernel_rfl
  rw [hc] at hl
  obtain ⟨c0, c1, c2, rfl⟩ := list3 hl
  obtain ⟨x0, x1, x2, rfl⟩ := list3 (show xs.length = 3 from hlen)
  have k2 : Tryd.prog.cellsOf 2 = 1 := by kernel_rfl
  have k3 : Tryd.prog.cellsOf 3 = 1 := by kernel_rfl
  have k9 : Tryd.prog.cellsOf 9 = 1 := by kernel_rfl
  have h0 : DataW.trod enc Tryd.prog w base spare held m 3 (([c0, c1, c2].drop 0).take (Tryd.prog.cellsOf 3)) = some x0 := hf 0 _ rfl
  have h1 : DataW.trod enc Tryd.prog w base spare held m 2 (([c0, c1, c2].drop 1).take (Tryd.prog.cellsOf 2)) = some x1 := hf 1 _ rfl
  have h2 : DataW.trod enc Tryd.prog w base spare held m 9 (([c0, c1, c2].drop 2).take (Tryd.prog.cellsOf 9)) = some x2 := hf 2 _ rfl
  clear hf
  rw [k3] at h0
  rw [k2] at h1
  rw [k9] at h2
  obtain ⟨a0, e0, _, _⟩ := DataW.trod_int Tryd.underlying3 h0
  obtain ⟨a1, e1, _, w1⟩ := DataW.trod_int Tryd.underlying2 h1
  obtain ⟨a2, e2, _, _⟩ := DataW.trod_string Tryd.underlying9 h2
  simp only [List.drop_succ_cons, List.drop_zero, List.take_succ_cons, List.take_zero, List.cons.injEq, and_true] at e0 e1 e2
  subst e0 e1 e2
  exact ⟨⟨a0, a1, a2⟩, rfl, w1⟩
set_option maxRecDepth 100000 in
theorem open_pts {H : Type} {enc : TypeId × Value → H} {W : World} {v : Value} {d : DataW H} {p : List MemPlace} {base : Nat} (hv : Value.okWide Tryd.prog W .any base 33 v) (h : DataW.Trod enc Tryd.prog W 0 (fun _ => true) true 33 v d p) :
    ∃ (ps : List PT) (o : Option Addr) (cap : Nat), v = .slice o ps.length cap ∧ PsIn W W.heap.size o ps ∧ (∀ t ∈ ps, Lit.wf (.int .i64 t.n) = true) ∧ ps.length ≤ maxLen := by
  obtain ⟨a0, len0, cap0, rfl⟩ := okWide_slice Tryd.underlying33 hv
  obtain ⟨fuel, hf⟩ := h
  have hc : Tryd.prog.cellsOf 26 = 3 := by kernel_rfl
  rcases Go.Deep.open_slice Tryd.underlying33 hf with ⟨hcs, _⟩ | ⟨a, len, cap, m, n, D, Pl, hcs, hb, hl, hm, hmm, _, hx⟩
  · simp [Value.cells] at hcs
    obtain ⟨rfl, rfl, rfl⟩ := hcs
    exact ⟨[], none, 0, rfl, .inl rfl, fun t ht => (by cases ht), Nat.zero_le _⟩
  · simp [Value.cells] at hcs
    obtain ⟨rfl, rfl, rfl⟩ := hcs
    rw [hc] at hx
    have hlm : len0 ≤ m := by rw [hmm]; simpa using hl
    have hall : ∀ i, i < len0 → ∃ t : PT, W.cells? 0 (a.add (i * 3)) 3 = some (ptC t) ∧ Lit.wf (.int .i64 t.n) = true := by
      intro i hi
      obtain ⟨cs', h1, h2⟩ := hx i (by omega)
      obtain ⟨t, rfl, h3⟩ := open_pt h2
      exact ⟨t, h1, h3⟩
    haveI : Inhabited PT := ⟨⟨0, 0, ⟨#[]⟩⟩⟩
    obtain ⟨f, hf2⟩ := Go.Deep.choose_lt hall
    refine ⟨(List.range len0).map f, some a, cap0, by simp, ?_, ?_, by simp; omega⟩
    · rcases Nat.eq_zero_or_pos len0 with h0 | h0
      · subst h0; exact .inl rfl
      · right
        obtain ⟨b, off, spot⟩ := a
        have hcell : ∀ i, i < len0 → ∀ q u, (ptC (f i))[q]? = some u → W.cell? ((⟨b, off, spot⟩ : Addr).add (i * 3 + q)) = some u := by
          intro i hi q u hu
          have h1 := World.cells?_some (hf2 i hi).1
          have hq : q < 3 := (List.getElem?_eq_some_iff.1 hu).1
          have h2 := h1.2.2 q hq
          rw [hu, Go.Deep.add_add] at h2
          exact h2
        have hspot : spot = none := by simpa [Addr.add] using World.cell?_spot (hcell 0 h0 0 _ rfl)
        subst hspot
        refine ⟨b, off, rfl, ?_, ?_⟩
        · have h1 := World.cells?_block (hf2 0 h0).1 (by omega)
          rw [Addr.add_lit] at h1
          exact h1
        · intro k hk
          simp only [List.length_map, List.length_range] at hk
          simp only [List.getElem_map, List.getElem_range]
          have e0 := hcell k hk 0 _ rfl
          have e1 := hcell k hk 1 _ rfl
          have e2 := hcell k hk 2 _ rfl
          rw [Addr.add_lit, ← Nat.add_assoc] at e0 e1 e2
          exact ⟨e0, e1, e2⟩
    · intro t ht
      obtain ⟨i, hi, rfl⟩ := List.mem_map.1 ht
      exact (hf2 i (by simpa using hi)).2
end Go.Proofs.YtijafedpaghhaaaDoor
