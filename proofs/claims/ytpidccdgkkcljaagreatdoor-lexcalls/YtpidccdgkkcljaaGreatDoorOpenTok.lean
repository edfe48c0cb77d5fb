/-
  A slice of tokens that was handed in, opened.
-/
import Derived.Test.YtpidccdgkkcljaaGreatDoorCallT
import Derived.ProofKit
import Derived.OpenShut
import Derived.Deep.Slices
namespace Go.Proofs.YtpidccdgkkcljaaGreatDoor
open Go.ChangeShapes Go.WideShapes Go.ChangeAt Go.RowKit
set_option linter.unusedVariables false

theorem list7 {α : Type} : ∀ {l : List α}, l.length = 7 → ∃ c0 c1 c2 c3 c4 c5 c6, l = [c0, c1, c2, c3, c4, c5, c6]
  | [c0, c1, c2, c3, c4, c5, c6], _ => ⟨c0, c1, c2, c3, c4, c5, c6, rfl⟩
set_option maxRecDepth 100000 in
theorem open_tok {H : Type} {enc : TypeId × Value → H} {w : World} {base : Nat} {spare : Nat → Bool} {held : Bool} {n : Nat} {cs : List Value} {x : DataW H × List MemPlace} (h : DataW.trod enc Tryz.prog w base spare held n 30 cs = some x) :
    ∃ t : Tg, cs = tgC t ∧ t.num ≤ 9223372036854775807 ∧ t.text.length ≤ maxLen := by
  obtain ⟨xs, m, _, rfl, hl, hlen, hf⟩ := DataW.trod_struct Tryz.underlying30 h
  have hc : Tryz.prog.cellsOf 30 = 7 := by kernel_rfl
  rw [hc] at hl
  obtain ⟨c0, c1, c2, c3, c4, c5, c6, rfl⟩ := list7 hl
  obtain ⟨x0, x1, x2, x3, x4, x5, x6, rfl⟩ := list7 (show xs.length = 7 from hlen)
  have k2 : Tryz.prog.cellsOf 2 = 1 := by kernel_rfl
  have k3 : Tryz.prog.cellsOf 3 = 1 := by kernel_rfl
  have k4 : Tryz.prog.cellsOf 4 = 1 := by kernel_rfl
  have k9 : Tryz.prog.cellsOf 9 = 1 := by kernel_rfl
  have h0 : DataW.trod enc Tryz.prog w base spare held m 3 (([c0, c1, c2, c3, c4, c5, c6].drop 0).take (Tryz.prog.cellsOf 3)) = some x0 := hf 0 _ rfl
  have h1 : DataW.trod enc Tryz.prog w base spare held m 9 (([c0, c1, c2, c3, c4, c5, c6].drop 1).take (Tryz.prog.cellsOf 9)) = some x1 := hf 1 _ rfl
  have h2 : DataW.trod enc Tryz.prog w base spare held m 2 (([c0, c1, c2, c3, c4, c5, c6].drop 2).take (Tryz.prog.cellsOf 2)) = some x2 := hf 2 _ rfl
  have h3 : DataW.trod enc Tryz.prog w base spare held m 3 (([c0, c1, c2, c3, c4, c5, c6].drop 3).take (Tryz.prog.cellsOf 3)) = some x3 := hf 3 _ rfl
  have h4 : DataW.trod enc Tryz.prog w base spare held m 3 (([c0, c1, c2, c3, c4, c5, c6].drop 4).take (Tryz.prog.cellsOf 3)) = some x4 := hf 4 _ rfl
  have h5 : DataW.trod enc Tryz.prog w base spare held m 3 (([c0, c1, c2, c3, c4, c5, c6].drop 5).take (Tryz.prog.cellsOf 3)) = some x5 := hf 5 _ rfl
  have h6 : DataW.trod enc Tryz.prog w base spare held m 4 (([c0, c1, c2, c3, c4, c5, c6].drop 6).take (Tryz.prog.cellsOf 4)) = some x6 := hf 6 _ rfl
  clear hf
  rw [k3] at h0 h3 h4 h5
  rw [k9] at h1
  rw [k2] at h2
  rw [k4] at h6
  obtain ⟨a0, e0, _, _⟩ := DataW.trod_int Tryz.underlying3 h0
  obtain ⟨a1, e1, _, w1⟩ := DataW.trod_string Tryz.underlying9 h1
  obtain ⟨a2, e2, _, w2⟩ := DataW.trod_int Tryz.underlying2 h2
  obtain ⟨a3, e3, _, _⟩ := DataW.trod_int Tryz.underlying3 h3
  obtain ⟨a4, e4, _, _⟩ := DataW.trod_int Tryz.underlying3 h4
  obtain ⟨a5, e5, _, _⟩ := DataW.trod_int Tryz.underlying3 h5
  obtain ⟨a6, e6, _⟩ := DataW.trod_bool Tryz.underlying4 h6
  simp only [List.drop_succ_cons, List.drop_zero, List.take_succ_cons, List.take_zero, List.cons.injEq, and_true] at e0 e1 e2 e3 e4 e5 e6
  subst e0 e1 e2 e3 e4 e5 e6
  refine ⟨⟨a0, a1.data.toList, a2, a3, a4, a5, a6⟩, rfl, ?_, ?_⟩
  · exact (bounds_i64 w2).2
  · show a1.data.toList.length ≤ maxLen
    rw [← Lib.size_eq]; exact w1

instance : Inhabited Tg := ⟨⟨0, [], 0, 0, 0, 0, false⟩⟩
set_option maxRecDepth 100000 in
theorem open_toks {H : Type} {enc : TypeId × Value → H} {W : World} {v : Value} {d : DataW H} {p : List MemPlace} {base : Nat} (hv : Value.okWide Tryz.prog W .any base 23 v) (h : DataW.Trod enc Tryz.prog W 0 (fun _ => true) true 23 v d p) :
    ∃ (ts : List Tg) (o : Option Addr) (cap : Nat), v = .slice o ts.length cap ∧ TgIn W o ts ∧ (∀ t ∈ ts, t.num ≤ 9223372036854775807) ∧ ts.length ≤ maxLen ∧ ∀ t ∈ ts, t.text.length ≤ maxLen := by
  obtain ⟨a0, len0, cap0, rfl⟩ := okWide_slice Tryz.underlying23 hv
  obtain ⟨fuel, hf⟩ := h
  have hc : Tryz.prog.cellsOf 30 = 7 := by kernel_rfl
  rcases Go.Deep.open_slice Tryz.underlying23 hf with ⟨hcs, _⟩ | ⟨a, len, cap, m, n, D, Pl, hcs, hb, hl, hm, hmm, _, hx⟩
  · simp [Value.cells] at hcs
    obtain ⟨rfl, rfl, rfl⟩ := hcs
    exact ⟨[], none, 0, rfl, .inl rfl, fun t ht => (by cases ht), Nat.zero_le _, fun t ht => (by cases ht)⟩
  · simp [Value.cells] at hcs
    obtain ⟨rfl, rfl, rfl⟩ := hcs
    rw [hc] at hx
    have hlm : len0 ≤ m := by rw [hmm]; simpa using hl
    have hall : ∀ i, i < len0 → ∃ t : Tg, W.cells? 0 (a.add (i * 7)) 7 = some (tgC t) ∧ t.num ≤ 9223372036854775807 ∧ t.text.length ≤ maxLen := by
      intro i hi
      obtain ⟨cs', h1, h2⟩ := hx i (by omega)
      obtain ⟨t, rfl, h3, h4⟩ := open_tok h2
      exact ⟨t, h1, h3, h4⟩
    obtain ⟨f, hf2⟩ := Go.Deep.choose_lt hall
    refine ⟨(List.range len0).map f, some a, cap0, by simp, ?_, ?_, by simp; omega, ?_⟩
    · rcases Nat.eq_zero_or_pos len0 with h0 | h0
      · subst h0; exact .inl rfl
      · right
        obtain ⟨b, off, spot⟩ := a
        have hcell : ∀ i, i < len0 → ∀ q u, (tgC (f i))[q]? = some u → W.cell? ((⟨b, off, spot⟩ : Addr).add (i * 7 + q)) = some u := by
          intro i hi q u hu
          have h1 := World.cells?_some (hf2 i hi).1
          have hq : q < 7 := (List.getElem?_eq_some_iff.1 hu).1
          have h2 := h1.2.2 q hq
          rw [hu, Go.Deep.add_add] at h2
          exact h2
        have hspot : spot = none := by simpa [Addr.add] using World.cell?_spot (hcell 0 h0 0 _ rfl)
        subst hspot
        refine ⟨b, off, rfl, ?_, ?_⟩
        · have h1 := World.cells?_block (hf2 0 h0).1 (by omega)
          rw [Addr.add_lit] at h1
          exact h1
        · intro k hk q u hu
          simp only [List.length_map, List.length_range] at hk
          simp only [List.getElem_map, List.getElem_range] at hu
          have := hcell k hk q u hu
          rw [Addr.add_lit, ← Nat.add_assoc] at this
          exact this
    · intro t ht
      obtain ⟨i, hi, rfl⟩ := List.mem_map.1 ht
      exact (hf2 i (by simpa using hi)).2.1
    · intro t ht
      obtain ⟨i, hi, rfl⟩ := List.mem_map.1 ht
      exact (hf2 i (by simpa using hi)).2.2

end Go.Proofs.YtpidccdgkkcljaaGreatDoor
