/-
  An expression that was handed in, opened.
  An expression that was handed in, opened: any row of parts, and the whole.
  Trees of a smaller depth; how many expressions and names there are.
-/
import Derived.Test.YtegdloenakachaaGreatDoorCN30
import Derived.ProofKit
import Derived.OpenShut
import Derived.Deep.Slices
import Derived.Test.YtegdloenakachaaGreatDoorCN25
namespace Go.Proofs.YtegdloenakachaaGreatDoor
open Go.ChangeShapes Go.WideShapes Go.ChangeAt Go.RowKit
set_option linter.unusedVariables false

/-- How great a string or a row may be that was read. -/
def LB : Nat := 140737488355328
/-- An expression's numbers, names and rows may be. -/
def WfT : (d : Nat) → Tr d → Prop
  | 0, t => nomatch t
  | d + 1, t => Lit.wf (.int .i64 (TrN.kind t)) = true ∧ (TrN.name t).size ≤ LB ∧ Lit.wf (.int .i64 (TrN.num t)) = true ∧ ((TrN.params t).length ≤ LB ∧ ∀ x ∈ TrN.params t, x.size ≤ LB) ∧
    ((TrN.binds t).length ≤ LB ∧ ∀ b ∈ TrN.binds t, b.1.size ≤ LB ∧ WfT d b.2) ∧ ((TrN.args t).length ≤ LB ∧ ∀ e ∈ TrN.args t, WfT d e) ∧
    ((TrN.alts t).length ≤ LB ∧ ∀ a ∈ TrN.alts t, Lit.wf (.int .i64 a.1.kind) = true ∧ a.1.name.size ≤ LB ∧ Lit.wf (.int .i64 a.1.num) = true ∧ (a.1.vars.length ≤ LB ∧ ∀ x ∈ a.1.vars, x.size ≤ LB) ∧ WfT d a.2)
/-- A row's length, and what it may grow to. -/
def ExVal2 (W : World) (d : Nat) (t : Tr (d + 1)) (v : Value) : Prop := ∃ o3 c3 o4 c4 o5 c5 o6 c6, v = .agg #[.int .i64 (TrN.kind t), .string (TrN.name t), .int .i64 (TrN.num t), .slice o3 (TrN.params t).length c3, .slice o4 (TrN.binds t).length c4, .slice o5 (TrN.args t).length c5, .slice o6 (TrN.alts t).length c6] ∧
  TxIn W W.heap.size o3 (TrN.params t) ∧ RowIn W.heap.size 8 (fun (b : ByteArray × Tr d) g off => W.cell? ⟨g, off, none⟩ = some (.string b.1) ∧ ExAt W W.heap.size d b.2 g (off + 1) ∧ CpAt W W.heap.size d b.2 g (off + 1)) o4 (TrN.binds t) ∧
  RowIn W.heap.size 7 (fun (x : Tr d) g off => ExAt W W.heap.size d x g off ∧ CpAt W W.heap.size d x g off) o5 (TrN.args t) ∧
  RowIn W.heap.size 11 (fun (a : AltH × Tr d) g off => W.cell? ⟨g, off, none⟩ = some (.int .i64 a.1.kind) ∧ W.cell? ⟨g, off + 1, none⟩ = some (.string a.1.name) ∧ W.cell? ⟨g, off + 2, none⟩ = some (.int .i64 a.1.num) ∧ (∃ o c, W.cell? ⟨g, off + 3, none⟩ = some (.slice o a.1.vars.length c) ∧ TxIn W W.heap.size o a.1.vars) ∧ ExAt W W.heap.size d a.2 g (off + 4) ∧ CpAt W W.heap.size d a.2 g (off + 4)) o6 (TrN.alts t) ∧ (TrN.alts t).length ≤ c6
theorem ExVal2.val {W : World} {d : Nat} {t : Tr (d + 1)} {v : Value} (h : ExVal2 W d t v) : ExVal W W.heap.size d t v := by
  obtain ⟨o3, c3, o4, c4, o5, c5, o6, c6, e, k3, k4, k5, k6, -⟩ := h
  exact ⟨o3, c3, o4, c4, o5, c5, o6, c6, e, k3, k4.mono (fun x g off _ h => ⟨h.1, h.2.1⟩), k5.mono (fun x g off _ h => h.1), k6.mono (fun x g off _ h => ⟨h.1, h.2.1, h.2.2.1, h.2.2.2.1, h.2.2.2.2.1⟩)⟩
/-- Its cells, wherever they lie. -/
theorem ExVal2.at {W : World} {d : Nat} {t : Tr (d + 1)} {c0 c1 c2 c3 c4 c5 c6 : Value} (h : ExVal2 W d t (.agg #[c0, c1, c2, c3, c4, c5, c6])) {g off : Nat} (hg : g < W.heap.size) (h0 : W.cell? ⟨g, off, none⟩ = some c0) (h1 : W.cell? ⟨g, off + 1, none⟩ = some c1) (h2 : W.cell? ⟨g, off + 2, none⟩ = some c2) (h3 : W.cell? ⟨g, off + 3, none⟩ = some c3) (h4 : W.cell? ⟨g, off + 4, none⟩ = some c4) (h5 : W.cell? ⟨g, off + 5, none⟩ = some c5) (h6 : W.cell? ⟨g, off + 6, none⟩ = some c6) :
    ExAt W W.heap.size (d + 1) t g off ∧ CpAt W W.heap.size (d + 1) t g off := by
  obtain ⟨o3, q3, o4, q4, o5, q5, o6, q6, e, k3, k4, k5, k6, hle⟩ := h
  cases e
  refine ⟨⟨hg, h0, h1, h2, ⟨_, _, h3, k3⟩, ⟨_, _, h4, k4.mono (fun x g off _ h => ⟨h.1, h.2.1⟩)⟩, ⟨_, _, h5, k5.mono (fun x g off _ h => h.1)⟩, ⟨_, _, h6, k6.mono (fun x g off _ h => ⟨h.1, h.2.1, h.2.2.1, h.2.2.2.1, h.2.2.2.2.1⟩)⟩⟩, fun o n c e => ?_, fun g' x' n c hg' e k hk => ?_, fun g' x' n c hg' e k hk => ?_, fun g' x' n c hg' e k hk => ?_⟩
  · have := h6.symm.trans e
    cases this; exact hle
  · have := h4.symm.trans e
    cases this
    exact (k4.lt_of hk rfl).2.2.2
  · have := h5.symm.trans e
    cases this
    exact (k5.lt_of hk rfl).2.2
  · have := h6.symm.trans e
    cases this
    exact (k6.lt_of hk rfl).2.2.2.2.2.2
theorem list7 {α : Type} : ∀ {l : List α}, l.length = 7 → ∃ c0 c1 c2 c3 c4 c5 c6, l = [c0, c1, c2, c3, c4, c5, c6]
  | [c0, c1, c2, c3, c4, c5, c6], _ => ⟨c0, c1, c2, c3, c4, c5, c6, rfl⟩
theorem list2 {α : Type} : ∀ {l : List α}, l.length = 2 → ∃ c0 c1, l = [c0, c1]
  | [c0, c1], _ => ⟨c0, c1, rfl⟩
theorem list5e {α : Type} : ∀ {l : List α}, l.length = 5 → ∃ c0 c1 c2 c3 c4, l = [c0, c1, c2, c3, c4]
  | [c0, c1, c2, c3, c4], _ => ⟨c0, c1, c2, c3, c4, rfl⟩
theorem cell_ltE {W : World} {b off : Nat} {v : Value} (h : W.cell? ⟨b, off, none⟩ = some v) : b < W.heap.size := by
  by_cases e : b < W.heap.size
  · exact e
  · have : W.heap[b]? = none := Array.getElem?_eq_none (by omega)
    simp [World.cell?, this] at h
/-- All weights are within reach. -/
def Rch {H : Type} (t : TypeId) (x : DataW H) : Prop := ∀ n ∈ x.weights Tryz.prog t, n ≤ LB
theorem mem_weightsAll {H : Type} {e : TypeId} {y : DataW H} : ∀ {l : List (DataW H)}, y ∈ l → ∀ n ∈ y.weights Tryz.prog e, n ∈ DataW.weightsAll Tryz.prog e l
  | z :: l, h, n, hn => by
    unfold DataW.weightsAll
    rcases List.mem_cons.1 h with rfl | h
    · exact List.mem_append.2 (.inl hn)
    · exact List.mem_append.2 (.inr (mem_weightsAll h n hn))
theorem mem_weightsEach {H : Type} : ∀ {ts : List TypeId} {l : List (DataW H)} {i : Nat} {t : TypeId} {y : DataW H}, ts[i]? = some t → l[i]? = some y → ∀ n ∈ y.weights Tryz.prog t, n ∈ DataW.weightsEach Tryz.prog ts l
  | t0 :: ts, y0 :: l, 0, t, y, h1, h2, n, hn => by
    cases h1; cases h2
    unfold DataW.weightsEach
    exact List.mem_append.2 (.inl hn)
  | t0 :: ts, y0 :: l, i + 1, t, y, h1, h2, n, hn => by
    unfold DataW.weightsEach
    exact List.mem_append.2 (.inr (mem_weightsEach (i := i) (by simpa using h1) (by simpa using h2) n hn))
  | [], _, i, t, y, h1, _, n, hn => by simp at h1
  | _ :: _, [], i, t, y, _, h2, n, hn => by simp at h2
theorem Rch.part {H : Type} {t : TypeId} {fs : Array Field} {parts : List (DataW H)} (ht : Tryz.prog.underlying t = some (.struct fs)) (h : Rch t (.agg parts)) {i : Nat} {f : Field} {y : DataW H} (hf : fs[i]? = some f) (hy : parts[i]? = some y) : Rch f.type y := by
  intro n hn
  refine h n ?_
  unfold DataW.weights
  rw [ht]
  refine mem_weightsEach (i := i) (t := f.type) ?_ hy n hn
  rw [List.getElem?_map, ← Array.getElem?_toList] at *
  simp [hf]
theorem Rch.elem {H : Type} {t e : TypeId} {l r : List (DataW H)} (ht : Tryz.prog.underlying t = some (.slice e)) (h : Rch t (.slice l r)) {y : DataW H} (hy : y ∈ l) : Rch e y := by
  intro n hn
  refine h n ?_
  unfold DataW.weights
  rw [ht]
  exact List.mem_cons_of_mem _ (List.mem_append.2 (.inl (mem_weightsAll hy n hn)))
theorem Rch.len {H : Type} {t e : TypeId} {l r : List (DataW H)} (ht : Tryz.prog.underlying t = some (.slice e)) (hb : 1 ≤ Tryz.prog.bytesOf e) (h : Rch t (.slice l r)) : l.length ≤ LB := by
  have := h ((l.length + r.length) * Tryz.prog.bytesOf e) (by
    unfold DataW.weights
    rw [ht]
    exact List.mem_cons_self)
  have h2 : (l.length + r.length) * 1 ≤ (l.length + r.length) * Tryz.prog.bytesOf e := Nat.mul_le_mul_left _ hb
  omega
theorem Rch.str {H : Type} {t : TypeId} {l : List UInt8} (h : Rch (H := H) t (.lit (.string l))) : l.length ≤ LB := h l.length (by unfold DataW.weights; exact List.mem_cons_self)
/-- A row of texts that was handed in. -/
theorem open_tx {H : Type} {enc : TypeId × Value → H} {W : World} {spare : Nat → Bool} {held : Bool} {n : Nat} {cs : List Value} {x : DataW H × List MemPlace} (h : DataW.trod enc Tryz.prog W 0 spare held n 26 cs = some x) (hr : Rch 26 x.1) :
    ∃ (o : Option Addr) (c : Nat) (l : List ByteArray), cs = [.slice o l.length c] ∧ TxIn W W.heap.size o l ∧ l.length ≤ LB ∧ ∀ x ∈ l, x.size ≤ LB := by
  rcases DataW.trod_slice Tryz.underlying26 h with ⟨hcs, _⟩ | ⟨a, len, cap, elems, rest, n', -, hcs, hx, -, -, -, hlen, hel, -, -⟩
  · exact ⟨none, 0, [], hcs, .inl rfl, Nat.zero_le _, fun x h => by cases h⟩
  · rw [hx] at hr
    have hc : Tryz.prog.cellsOf 9 = 1 := by kernel_rfl
    have hL : len ≤ LB := by have := hr.len Tryz.underlying26 (by decide +kernel); simpa [hlen] using this
    have hall : ∀ i, i < len → ∃ s : ByteArray, W.cell? (a.add i) = some (.string s) ∧ s.size ≤ LB := by
      intro i hi
      have h5 := hel i hi
      rw [List.getElem?_eq_getElem (by omega), hc, Nat.mul_one] at h5
      obtain ⟨cs', h6, h7⟩ := Option.bind_eq_some_iff.1 h5
      obtain ⟨s, e, e2, hs⟩ := DataW.trod_string Tryz.underlying9 h7
      have h8 := World.cells?_some h6
      have h9 := h8.2.2 0 (by omega)
      rw [e] at h9
      have hq : Rch 9 (elems[i]'(by omega)).1 := hr.elem Tryz.underlying26 (List.mem_map.2 ⟨_, List.getElem_mem _, rfl⟩)
      rw [e2] at hq
      have h10 := hq.str
      have h11 : s.data.toList.length = s.size := by rw [Array.length_toList]; rfl
      refine ⟨s, ?_, by omega⟩
      rw [Go.Deep.add_add, Nat.add_zero] at h9
      simpa using h9
    haveI : Inhabited ByteArray := ⟨⟨#[]⟩⟩
    obtain ⟨f, hf⟩ := Go.Deep.choose_lt hall
    refine ⟨some a, cap, (List.range len).map f, by simpa using hcs, ?_, by simpa using hL, ?_⟩
    · rcases Nat.eq_zero_or_pos len with h0 | h0
      · subst h0; exact .inl rfl
      · right
        obtain ⟨b, off, spot⟩ := a
        have hspot : spot = none := by simpa [Addr.add] using World.cell?_spot (hf 0 h0).1
        subst hspot
        have hcell : ∀ i, i < len → W.cell? ⟨b, off + i, none⟩ = some (.string (f i)) := fun i hi => by have := (hf i hi).1; rw [Addr.add_lit] at this; exact this
        refine ⟨b, off, rfl, cell_ltE (hcell 0 h0), fun k hk => ?_⟩
        simp only [List.length_map, List.length_range] at hk
        rw [hcell k hk]
        simp
    · intro x hx
      obtain ⟨i, hi, rfl⟩ := List.mem_map.1 hx
      exact (hf i (by simpa using hi)).2
end Go.Proofs.YtegdloenakachaaGreatDoor

namespace Go.Proofs.YtegdloenakachaaGreatDoor
open Go.ChangeShapes Go.WideShapes Go.ChangeAt Go.RowKit
set_option linter.unusedVariables false

theorem open_row {H : Type} {enc : TypeId × Value → H} {W : World} {spare : Nat → Bool} {held : Bool} {n : Nat} {cs : List Value} {x : DataW H × List MemPlace} {te e : TypeId} {c : Nat} {α : Type} {Q : α → Nat → Nat → Prop} {P : α → Prop}
    (ht : Tryz.prog.underlying te = some (.slice e)) (hc : Tryz.prog.cellsOf e = c) (hc1 : 1 ≤ c) (hb : 1 ≤ Tryz.prog.bytesOf e)
    (hall : ∀ n', n' < n → ∀ (cs' : List Value) (x' : DataW H × List MemPlace), DataW.trod enc Tryz.prog W 0 spare held n' e cs' = some x' → Rch e x'.1 → ∃ y : α, P y ∧ ∀ g off, g < W.heap.size → (∀ j u, cs'[j]? = some u → W.cell? ⟨g, off + j, none⟩ = some u) → Q y g off)
    (h : DataW.trod enc Tryz.prog W 0 spare held n te cs = some x) (hr : Rch te x.1) :
    ∃ (o : Option Addr) (cap : Nat) (l : List α), cs = [.slice o l.length cap] ∧ RowIn W.heap.size c Q o l ∧ l.length ≤ LB ∧ l.length ≤ cap ∧ ∀ y ∈ l, P y := by
  rcases DataW.trod_slice ht h with ⟨hcs, _⟩ | ⟨a, len, cap, elems, rest, n', hn, hcs, hx, -, hlc, -, hlen, hel, -, -⟩
  · exact ⟨none, 0, [], hcs, .inl rfl, Nat.zero_le _, Nat.le_refl _, fun x h => by cases h⟩
  · rw [hx] at hr
    have hL : len ≤ LB := by have := hr.len ht hb; simpa [hlen] using this
    rw [hc] at hel
    have hall2 : ∀ i, i < len → ∃ y : α, P y ∧ (∃ cs' : List Value, cs'.length = c ∧ W.cells? 0 (a.add (i * c)) c = some cs' ∧ ∀ g off, g < W.heap.size → (∀ j u, cs'[j]? = some u → W.cell? ⟨g, off + j, none⟩ = some u) → Q y g off) := by
      intro i hi
      have h5 := hel i hi
      rw [List.getElem?_eq_getElem (by omega)] at h5
      obtain ⟨cs', h6, h7⟩ := Option.bind_eq_some_iff.1 h5
      have hq : Rch e (elems[i]'(by omega)).1 := hr.elem ht (List.mem_map.2 ⟨_, List.getElem_mem _, rfl⟩)
      obtain ⟨y, hP, hQ⟩ := hall n' (by omega) cs' _ h7 hq
      exact ⟨y, hP, cs', (World.cells?_some h6).2.1, h6, hQ⟩
    rcases Nat.eq_zero_or_pos len with h0 | h0
    · subst h0
      exact ⟨some a, cap, [], by simpa using hcs, .inl rfl, Nat.zero_le _, Nat.zero_le _, fun x h => by cases h⟩
    · obtain ⟨y0, -⟩ := hall2 0 h0
      haveI : Inhabited α := ⟨y0⟩
      obtain ⟨f, hf⟩ := Go.Deep.choose_lt hall2
      refine ⟨some a, cap, (List.range len).map f, by simpa using hcs, ?_, by simpa using hL, by simpa using hlc, ?_⟩
      · right
        obtain ⟨b, off, spot⟩ := a
        have hcell : ∀ i, i < len → ∀ cs' : List Value, W.cells? 0 ((⟨b, off, spot⟩ : Addr).add (i * c)) c = some cs' → ∀ q u, cs'[q]? = some u → W.cell? ((⟨b, off, spot⟩ : Addr).add (i * c + q)) = some u := by
          intro i hi cs' h6 q u hu
          have h1 := World.cells?_some h6
          have hq : q < c := by have := (List.getElem?_eq_some_iff.1 hu).1; rw [h1.2.1] at this; exact this
          have h2 := h1.2.2 q hq
          rw [hu, Go.Deep.add_add] at h2
          exact h2
        obtain ⟨cs0, hl0, hs0, -⟩ := (hf 0 h0).2
        obtain ⟨u0, hu0⟩ : ∃ u, cs0[0]? = some u := ⟨cs0[0]'(by omega), List.getElem?_eq_getElem _⟩
        have hspot : spot = none := by simpa [Addr.add] using World.cell?_spot (hcell 0 h0 cs0 hs0 0 _ hu0)
        subst hspot
        have hb' : b < W.heap.size := by
          have h1 := World.cells?_block hs0 (by omega)
          rw [Addr.add_lit] at h1
          exact h1
        refine ⟨b, off, rfl, hb', fun k hk => ?_⟩
        simp only [List.length_map, List.length_range] at hk
        have e2 : ((List.range len).map f)[k]'(by simpa using hk) = f k := by simp
        rw [e2]
        obtain ⟨cs', hl', hs', hQ⟩ := (hf k hk).2
        refine hQ b (off + k * c) hb' (fun j u hu => ?_)
        have h1 := hcell k hk cs' hs' j u hu
        rw [Addr.add_lit, ← Nat.add_assoc] at h1
        exact h1
      · intro x hx
        obtain ⟨i, hi, rfl⟩ := List.mem_map.1 hx
        exact (hf i (by simpa using hi)).1
theorem kE : Tryz.prog.cellsOf 31 = 7 := by kernel_rfl
theorem kB : Tryz.prog.cellsOf 36 = 8 := by kernel_rfl
theorem kA : Tryz.prog.cellsOf 40 = 11 := by kernel_rfl
theorem k2e : Tryz.prog.cellsOf 2 = 1 := by kernel_rfl
theorem k3e : Tryz.prog.cellsOf 3 = 1 := by kernel_rfl
theorem k9e : Tryz.prog.cellsOf 9 = 1 := by kernel_rfl
theorem kS : Tryz.prog.cellsOf 26 = 1 := by kernel_rfl
theorem kBs : Tryz.prog.cellsOf 27 = 1 := by kernel_rfl
theorem kEs : Tryz.prog.cellsOf 28 = 1 := by kernel_rfl
theorem kAs : Tryz.prog.cellsOf 29 = 1 := by kernel_rfl
theorem strOf {H : Type} {enc : TypeId × Value → H} {W : World} {spare : Nat → Bool} {held : Bool} {n : Nat} {c : Value} {x : DataW H × List MemPlace} (h : DataW.trod enc Tryz.prog W 0 spare held n 9 [c] = some x) (hr : Rch 9 x.1) : ∃ s : ByteArray, c = .string s ∧ s.size ≤ LB := by
  obtain ⟨s, e, e2, hs⟩ := DataW.trod_string Tryz.underlying9 h
  rw [e2] at hr
  have h10 := hr.str
  have h11 : s.data.toList.length = s.size := by rw [Array.length_toList]; rfl
  exact ⟨s, by simpa using e, by omega⟩
set_option maxRecDepth 100000 in
theorem open_ex {H : Type} {enc : TypeId × Value → H} {W : World} {spare : Nat → Bool} {held : Bool} : ∀ (n : Nat) {cs : List Value} {x : DataW H × List MemPlace}, DataW.trod enc Tryz.prog W 0 spare held n 31 cs = some x → Rch 31 x.1 → ∀ d, n ≤ d →
    ∃ (t : Tr (d + 1)) (c0 c1 c2 c3 c4 c5 c6 : Value), cs = [c0, c1, c2, c3, c4, c5, c6] ∧ ExVal2 W d t (.agg #[c0, c1, c2, c3, c4, c5, c6]) ∧ WfT (d + 1) t := by
  intro n
  induction n using Nat.strongRecOn with
  | ind n ih =>
    intro cs x h hr d hd
    obtain ⟨xs, m, hmn, hx, hl, hlen, hf⟩ := DataW.trod_struct Tryz.underlying31 h
    rw [kE] at hl
    obtain ⟨c0, c1, c2, c3, c4, c5, c6, rfl⟩ := list7 hl
    obtain ⟨x0, x1, x2, x3, x4, x5, x6, rfl⟩ := list7 (show xs.length = 7 from hlen)
    have h0 : DataW.trod enc Tryz.prog W 0 spare held m 3 (([c0, c1, c2, c3, c4, c5, c6].drop 0).take (Tryz.prog.cellsOf 3)) = some x0 := hf 0 _ rfl
    have h1 : DataW.trod enc Tryz.prog W 0 spare held m 9 (([c0, c1, c2, c3, c4, c5, c6].drop 1).take (Tryz.prog.cellsOf 9)) = some x1 := hf 1 _ rfl
    have h2 : DataW.trod enc Tryz.prog W 0 spare held m 2 (([c0, c1, c2, c3, c4, c5, c6].drop 2).take (Tryz.prog.cellsOf 2)) = some x2 := hf 2 _ rfl
    have h3 : DataW.trod enc Tryz.prog W 0 spare held m 26 (([c0, c1, c2, c3, c4, c5, c6].drop 3).take (Tryz.prog.cellsOf 26)) = some x3 := hf 3 _ rfl
    have h4 : DataW.trod enc Tryz.prog W 0 spare held m 27 (([c0, c1, c2, c3, c4, c5, c6].drop 4).take (Tryz.prog.cellsOf 27)) = some x4 := hf 4 _ rfl
    have h5 : DataW.trod enc Tryz.prog W 0 spare held m 28 (([c0, c1, c2, c3, c4, c5, c6].drop 5).take (Tryz.prog.cellsOf 28)) = some x5 := hf 5 _ rfl
    have h6 : DataW.trod enc Tryz.prog W 0 spare held m 29 (([c0, c1, c2, c3, c4, c5, c6].drop 6).take (Tryz.prog.cellsOf 29)) = some x6 := hf 6 _ rfl
    clear hf
    rw [k3e] at h0
    rw [k9e] at h1
    rw [k2e] at h2
    rw [kS] at h3
    rw [kBs] at h4
    rw [kEs] at h5
    rw [kAs] at h6
    simp only [List.drop_succ_cons, List.drop_zero, List.take_succ_cons, List.take_zero] at h0 h1 h2 h3 h4 h5 h6
    rw [hx] at hr
    have r1 : Rch 9 x1.1 := hr.part Tryz.underlying31 (i := 1) rfl rfl
    have r3 : Rch 26 x3.1 := hr.part Tryz.underlying31 (i := 3) rfl rfl
    have r4 : Rch 27 x4.1 := hr.part Tryz.underlying31 (i := 4) rfl rfl
    have r5 : Rch 28 x5.1 := hr.part Tryz.underlying31 (i := 5) rfl rfl
    have r6 : Rch 29 x6.1 := hr.part Tryz.underlying31 (i := 6) rfl rfl
    obtain ⟨a0, e0, _, w0⟩ := DataW.trod_int Tryz.underlying3 h0
    obtain ⟨a1, e1, w1⟩ := strOf h1 r1
    obtain ⟨a2, e2, _, w2⟩ := DataW.trod_int Tryz.underlying2 h2
    simp only [List.cons.injEq, and_true] at e0 e2
    subst e0 e1 e2
    obtain ⟨o3, p3, l3, e3, i3, b3, s3⟩ := open_tx h3 r3
    obtain ⟨d', rfl⟩ : ∃ d', d = d' + 1 := ⟨d - 1, by omega⟩
    have hE : ∀ n', n' < m → ∀ (cs' : List Value) (x' : DataW H × List MemPlace), DataW.trod enc Tryz.prog W 0 spare held n' 31 cs' = some x' → Rch 31 x'.1 → ∃ y : Tr (d' + 1), WfT (d' + 1) y ∧ ∀ g off, g < W.heap.size → (∀ j u, cs'[j]? = some u → W.cell? ⟨g, off + j, none⟩ = some u) → ExAt W W.heap.size (d' + 1) y g off ∧ CpAt W W.heap.size (d' + 1) y g off := by
      intro n' hn' cs' x' h' hr'
      obtain ⟨t, q0, q1, q2, q3, q4, q5, q6, rfl, hv, hw⟩ := ih n' (by omega) h' hr' d' (by omega)
      exact ⟨t, hw, fun g off hg hc => hv.at hg (hc 0 _ rfl) (hc 1 _ rfl) (hc 2 _ rfl) (hc 3 _ rfl) (hc 4 _ rfl) (hc 5 _ rfl) (hc 6 _ rfl)⟩
    obtain ⟨o5, p5, l5, e5, i5, b5, q5, s5⟩ := open_row Tryz.underlying28 kE (by omega) (by decide +kernel) (fun n' hn' => hE n' hn') h5 r5
    obtain ⟨o4, p4, l4, e4, i4, b4, q4, s4⟩ := open_row (α := ByteArray × Tr (d' + 1)) (P := fun b => b.1.size ≤ LB ∧ WfT (d' + 1) b.2) (Q := fun b g off => W.cell? ⟨g, off, none⟩ = some (.string b.1) ∧ ExAt W W.heap.size (d' + 1) b.2 g (off + 1) ∧ CpAt W W.heap.size (d' + 1) b.2 g (off + 1)) Tryz.underlying27 kB (by omega) (by decide +kernel) (fun n' hn' cs' x' h' hr' => by
      obtain ⟨ys, m', hm', hy, hl', hlen', hf'⟩ := DataW.trod_struct Tryz.underlying36 h'
      rw [kB] at hl'
      obtain ⟨y0, y1, rfl⟩ := list2 (show ys.length = 2 from hlen')
      rw [hy] at hr'
      have g0 : DataW.trod enc Tryz.prog W 0 spare held m' 9 ((cs'.drop 0).take (Tryz.prog.cellsOf 9)) = some y0 := hf' 0 _ rfl
      have g1 : DataW.trod enc Tryz.prog W 0 spare held m' 31 ((cs'.drop 1).take (Tryz.prog.cellsOf 31)) = some y1 := hf' 1 _ rfl
      have t0 : Rch 9 y0.1 := hr'.part Tryz.underlying36 (i := 0) rfl rfl
      have t1 : Rch 31 y1.1 := hr'.part Tryz.underlying36 (i := 1) rfl rfl
      match cs', hl' with
      | [z0, z1, z2, z3, z4, z5, z6, z7], _ =>
        rw [k9e] at g0
        rw [kE] at g1
        simp only [List.drop_succ_cons, List.drop_zero, List.take_succ_cons, List.take_zero] at g0 g1
        obtain ⟨s, e, hs⟩ := strOf g0 t0
        subst e
        obtain ⟨y, hw, hq⟩ := hE m' (by omega) _ _ g1 t1
        refine ⟨(s, y), ⟨hs, hw⟩, fun g off hg hc => ⟨hc 0 _ rfl, hq g (off + 1) hg (fun j u hu => ?_)⟩⟩
        have := hc (1 + j) u (by rw [Nat.add_comm]; simpa using hu)
        rw [← Nat.add_assoc] at this
        exact this) h4 r4
    obtain ⟨o6, p6, l6, e6, i6, b6, q6, s6⟩ := open_row (α := AltH × Tr (d' + 1)) (P := fun a => Lit.wf (.int .i64 a.1.kind) = true ∧ a.1.name.size ≤ LB ∧ Lit.wf (.int .i64 a.1.num) = true ∧ (a.1.vars.length ≤ LB ∧ ∀ x ∈ a.1.vars, x.size ≤ LB) ∧ WfT (d' + 1) a.2) (Q := fun a g off => W.cell? ⟨g, off, none⟩ = some (.int .i64 a.1.kind) ∧ W.cell? ⟨g, off + 1, none⟩ = some (.string a.1.name) ∧ W.cell? ⟨g, off + 2, none⟩ = some (.int .i64 a.1.num) ∧ (∃ o c, W.cell? ⟨g, off + 3, none⟩ = some (.slice o a.1.vars.length c) ∧ TxIn W W.heap.size o a.1.vars) ∧ ExAt W W.heap.size (d' + 1) a.2 g (off + 4) ∧ CpAt W W.heap.size (d' + 1) a.2 g (off + 4)) Tryz.underlying29 kA (by omega) (by decide +kernel) (fun n' hn' cs' x' h' hr' => by
      obtain ⟨ys, m', hm', hy, hl', hlen', hf'⟩ := DataW.trod_struct Tryz.underlying40 h'
      rw [kA] at hl'
      obtain ⟨y0, y1, y2, y3, y4, rfl⟩ := list5e (show ys.length = 5 from hlen')
      rw [hy] at hr'
      have g0 : DataW.trod enc Tryz.prog W 0 spare held m' 3 ((cs'.drop 0).take (Tryz.prog.cellsOf 3)) = some y0 := hf' 0 _ rfl
      have g1 : DataW.trod enc Tryz.prog W 0 spare held m' 9 ((cs'.drop 1).take (Tryz.prog.cellsOf 9)) = some y1 := hf' 1 _ rfl
      have g2 : DataW.trod enc Tryz.prog W 0 spare held m' 2 ((cs'.drop 2).take (Tryz.prog.cellsOf 2)) = some y2 := hf' 2 _ rfl
      have g3 : DataW.trod enc Tryz.prog W 0 spare held m' 26 ((cs'.drop 3).take (Tryz.prog.cellsOf 26)) = some y3 := hf' 3 _ rfl
      have g4 : DataW.trod enc Tryz.prog W 0 spare held m' 31 ((cs'.drop 4).take (Tryz.prog.cellsOf 31)) = some y4 := hf' 4 _ rfl
      have t1 : Rch 9 y1.1 := hr'.part Tryz.underlying40 (i := 1) rfl rfl
      have t3 : Rch 26 y3.1 := hr'.part Tryz.underlying40 (i := 3) rfl rfl
      have t4 : Rch 31 y4.1 := hr'.part Tryz.underlying40 (i := 4) rfl rfl
      match cs', hl' with
      | [z0, z1, z2, z3, z4, z5, z6, z7, z8, z9, z10], _ =>
        rw [k3e] at g0
        rw [k9e] at g1
        rw [k2e] at g2
        rw [kS] at g3
        rw [kE] at g4
        simp only [List.drop_succ_cons, List.drop_zero, List.take_succ_cons, List.take_zero] at g0 g1 g2 g3 g4
        obtain ⟨b0, f0, _, v0⟩ := DataW.trod_int Tryz.underlying3 g0
        obtain ⟨b1, f1, v1⟩ := strOf g1 t1
        obtain ⟨b2, f2, _, v2⟩ := DataW.trod_int Tryz.underlying2 g2
        obtain ⟨o, c, l, f3, u1, u2, u3⟩ := open_tx g3 t3
        simp only [List.cons.injEq, and_true] at f0 f2 f3
        subst f0 f1 f2 f3
        obtain ⟨y, hw, hq⟩ := hE m' (by omega) _ _ g4 t4
        refine ⟨(⟨b0, b1, b2, l⟩, y), ⟨v0, v1, v2, ⟨u2, u3⟩, hw⟩, fun g off hg hc => ⟨hc 0 _ rfl, hc 1 _ rfl, hc 2 _ rfl, ⟨o, c, hc 3 _ rfl, u1⟩, hq g (off + 4) hg (fun j u hu => ?_)⟩⟩
        have := hc (4 + j) u (by rw [Nat.add_comm]; simpa using hu)
        rw [← Nat.add_assoc] at this
        exact this) h6 r6
    simp only [List.cons.injEq, and_true] at e3 e4 e5 e6
    subst e3 e4 e5 e6
    exact ⟨(⟨a0, a1, a2, l3, l4, l5, l6⟩ : TrN (Tr (d' + 1))), _, _, _, _, _, _, _, rfl, ⟨o3, p3, o4, p4, o5, p5, o6, p6, rfl, i3, i4, i5, i6, q6⟩, w0, w1, w2, ⟨b3, s3⟩, ⟨b4, s4⟩, ⟨b5, s5⟩, ⟨b6, s6⟩⟩
end Go.Proofs.YtegdloenakachaaGreatDoor

namespace Go.Proofs.YtegdloenakachaaGreatDoor
open Go.RowKit Go.Shelf Go.Maps
set_option linter.unusedVariables false

/-- It is nested at most so deep. -/
def depLe : (d : Nat) → Tr d → Nat → Prop
  | 0, t, _ => nomatch t
  | _ + 1, _, 0 => False
  | d + 1, t, k + 1 => (∀ b ∈ TrN.binds t, depLe d b.2 k) ∧ (∀ e ∈ TrN.args t, depLe d e k) ∧ ∀ a ∈ TrN.alts t, depLe d a.2 k
theorem depLe_zero {d : Nat} {t : Tr d} (h : depLe d t 0) : False := by
  cases d with
  | zero => exact nomatch t
  | succ d => exact h
/-- The same expression, as a tree of a smaller depth. -/
def down : (k d : Nat) → Tr d → Tr (k + 1)
  | _, 0, t => nomatch t
  | 0, d + 1, t => (⟨TrN.kind t, TrN.name t, TrN.num t, TrN.params t, [], [], []⟩ : TrN (Tr 0))
  | k + 1, d + 1, t => (⟨TrN.kind t, TrN.name t, TrN.num t, TrN.params t, (TrN.binds t).map (fun b => (b.1, down k d b.2)), (TrN.args t).map (down k d), (TrN.alts t).map (fun a => (a.1, down k d a.2))⟩ : TrN (Tr (k + 1)))
theorem nil_of {α : Type} {l : List α} (h : ∀ x ∈ l, False) : l = [] := by
  cases l with
  | nil => rfl
  | cons x l => exact (h x List.mem_cons_self).elim
theorem dep_one {d : Nat} {t : Tr (d + 1)} (h : depLe (d + 1) t 1) : TrN.binds t = [] ∧ TrN.args t = [] ∧ TrN.alts t = [] :=
  ⟨nil_of (fun b hb => depLe_zero (h.1 b hb)), nil_of (fun b hb => depLe_zero (h.2.1 b hb)), nil_of (fun b hb => depLe_zero (h.2.2 b hb))⟩
theorem RowIn.mapM {α β : Type} {B n : Nat} {P : α → Nat → Nat → Prop} {Q : β → Nat → Nat → Prop} {o : Option Addr} {l : List α} {f : α → β} (h : RowIn B n P o l) (hpq : ∀ x ∈ l, ∀ g off, P x g off → Q (f x) g off) : RowIn B n Q o (l.map f) := by
  rcases h with h | ⟨g, off, e, hg, h⟩
  · exact .inl (by rw [h]; rfl)
  · refine .inr ⟨g, off, e, hg, fun k hk => ?_⟩
    rw [List.getElem_map]
    have hk2 : k < l.length := by rw [List.length_map] at hk; exact hk
    exact hpq _ (List.getElem_mem hk2) _ _ (h k hk2)
theorem RowIn.nilO {α : Type} {B n : Nat} {P : α → Nat → Nat → Prop} {o : Option Addr} : RowIn B n P o [] := .inl rfl
theorem down_at {W : World} {B : Nat} : ∀ (k d : Nat) (t : Tr d) (g off : Nat), depLe d t (k + 1) → ExAt W B d t g off → ExAt W B (k + 1) (down k d t) g off
  | _, 0, t, _, _, _, _ => nomatch t
  | 0, d + 1, t, g, off, hd, h => by
    obtain ⟨hg, h0, h1, h2, ⟨o3, c3, h3, k3⟩, ⟨o4, c4, h4, k4⟩, ⟨o5, c5, h5, k5⟩, ⟨o6, c6, h6, k6⟩⟩ := h
    obtain ⟨b1, b2, b3⟩ := dep_one hd
    rw [b1] at h4
    rw [b2] at h5
    rw [b3] at h6
    exact ⟨hg, h0, h1, h2, ⟨o3, c3, h3, k3⟩, ⟨o4, c4, h4, .inl rfl⟩, ⟨o5, c5, h5, .inl rfl⟩, ⟨o6, c6, h6, .inl rfl⟩⟩
  | k + 1, d + 1, t, g, off, hd, h => by
    obtain ⟨hg, h0, h1, h2, ⟨o3, c3, h3, k3⟩, ⟨o4, c4, h4, k4⟩, ⟨o5, c5, h5, k5⟩, ⟨o6, c6, h6, k6⟩⟩ := h
    refine ⟨hg, h0, h1, h2, ⟨o3, c3, h3, k3⟩, ⟨o4, c4, ?_, ?_⟩, ⟨o5, c5, ?_, ?_⟩, ⟨o6, c6, ?_, ?_⟩⟩
    · show (_ : Option Value) = some (Value.slice o4 ((TrN.binds t).map _).length c4)
      rw [List.length_map]; exact h4
    · refine k4.mapM (f := fun (b : ByteArray × Tr d) => (b.1, down k d b.2)) ?_
      rintro x hx g off ⟨e1, e2⟩
      exact ⟨e1, down_at k d _ _ _ (hd.1 x hx) e2⟩
    · show (_ : Option Value) = some (Value.slice o5 ((TrN.args t).map _).length c5)
      rw [List.length_map]; exact h5
    · refine k5.mapM (f := down k d) ?_
      intro x hx g off e
      exact down_at k d _ _ _ (hd.2.1 x hx) e
    · show (_ : Option Value) = some (Value.slice o6 ((TrN.alts t).map _).length c6)
      rw [List.length_map]; exact h6
    · refine k6.mapM (f := fun (a : AltH × Tr d) => (a.1, down k d a.2)) ?_
      rintro x hx g off ⟨e1, e2, e3, e4, e6⟩
      exact ⟨e1, e2, e3, e4, down_at k d _ _ _ (hd.2.2 x hx) e6⟩
theorem down_cp {W : World} {B : Nat} : ∀ (k d : Nat) (t : Tr d) (g off : Nat), depLe d t (k + 1) → CpAt W B d t g off → CpAt W B (k + 1) (down k d t) g off
  | _, 0, t, _, _, _, _ => nomatch t
  | 0, d + 1, t, g, off, hd, h => ⟨h.1, fun g' x' n c hg' e k hk => (by cases hk), fun g' x' n c hg' e k hk => (by cases hk), fun g' x' n c hg' e k hk => (by cases hk)⟩
  | k + 1, d + 1, t, g, off, hd, h => by
    obtain ⟨h6, p4, p5, p6⟩ := h
    refine ⟨h6, fun g' x' n c hg' e j hj => ?_, fun g' x' n c hg' e j hj => ?_, fun g' x' n c hg' e j hj => ?_⟩
    · have hj2 : j < (TrN.binds t).length := by have : j < ((TrN.binds t).map (fun b => (b.1, down k d b.2))).length := hj; rwa [List.length_map] at this
      have e2 : (TrN.binds (down (k + 1) (d + 1) t))[j]'hj = ((TrN.binds t)[j].1, down k d (TrN.binds t)[j].2) := List.getElem_map ..
      rw [e2]
      exact down_cp k d _ _ _ (hd.1 _ (List.getElem_mem hj2)) (p4 g' x' n c hg' e j hj2)
    · have hj2 : j < (TrN.args t).length := by have : j < ((TrN.args t).map (down k d)).length := hj; rwa [List.length_map] at this
      have e2 : (TrN.args (down (k + 1) (d + 1) t))[j]'hj = down k d (TrN.args t)[j] := List.getElem_map ..
      rw [e2]
      exact down_cp k d _ _ _ (hd.2.1 _ (List.getElem_mem hj2)) (p5 g' x' n c hg' e j hj2)
    · have hj2 : j < (TrN.alts t).length := by have : j < ((TrN.alts t).map (fun a => (a.1, down k d a.2))).length := hj; rwa [List.length_map] at this
      have e2 : (TrN.alts (down (k + 1) (d + 1) t))[j]'hj = ((TrN.alts t)[j].1, down k d (TrN.alts t)[j].2) := List.getElem_map ..
      rw [e2]
      exact down_cp k d _ _ _ (hd.2.2 _ (List.getElem_mem hj2)) (p6 g' x' n c hg' e j hj2)
theorem down_wf : ∀ (k d : Nat) (t : Tr d), WfT d t → WfT (k + 1) (down k d t)
  | _, 0, t, _ => nomatch t
  | 0, d + 1, t, h => ⟨h.1, h.2.1, h.2.2.1, h.2.2.2.1, ⟨Nat.zero_le _, fun b hb => by cases hb⟩, ⟨Nat.zero_le _, fun b hb => by cases hb⟩, ⟨Nat.zero_le _, fun b hb => by cases hb⟩⟩
  | k + 1, d + 1, t, h => by
    obtain ⟨h0, h1, h2, h3, ⟨b4, q4⟩, ⟨b5, q5⟩, ⟨b6, q6⟩⟩ := h
    refine ⟨h0, h1, h2, h3, ⟨?_, fun b hb => ?_⟩, ⟨?_, fun b hb => ?_⟩, ⟨?_, fun b hb => ?_⟩⟩
    · show ((TrN.binds t).map _).length ≤ _; rw [List.length_map]; exact b4
    · obtain ⟨x, hx, rfl⟩ := List.mem_map.1 hb; exact ⟨(q4 x hx).1, down_wf k d _ (q4 x hx).2⟩
    · show ((TrN.args t).map _).length ≤ _; rw [List.length_map]; exact b5
    · obtain ⟨x, hx, rfl⟩ := List.mem_map.1 hb; exact down_wf k d _ (q5 x hx)
    · show ((TrN.alts t).map _).length ≤ _; rw [List.length_map]; exact b6
    · obtain ⟨x, hx, rfl⟩ := List.mem_map.1 hb
      obtain ⟨p1, p2, p3, p4, p5⟩ := q6 x hx
      exact ⟨p1, p2, p3, p4, down_wf k d _ p5⟩
/-- How many expressions and names there are, as the kit counts them. -/
def cntM : (d : Nat) → Tr d → Nat
  | 0, t => nomatch t
  | d + 1, t => 1 + (TrN.params t).length + (TrN.name t).size / 64 + ((TrN.params t).map (fun x => x.size / 64)).sum + ((TrN.binds t).map fun b => 1 + b.1.size / 64 + cntM d b.2).sum + ((TrN.args t).map (cntM d)).sum +
      ((TrN.alts t).map fun a => a.1.vars.length + a.1.name.size / 64 + cntM d a.2 + (a.1.vars.map (fun x => x.size / 64)).sum).sum
theorem map_congr' {α β : Type} {l : List α} {f g : α → β} (h : ∀ x ∈ l, f x = g x) : l.map f = l.map g := List.map_congr_left h
theorem down_cnt : ∀ (k d : Nat) (t : Tr d), depLe d t (k + 1) → cntM (k + 1) (down k d t) = cntM d t
  | _, 0, t, _ => nomatch t
  | 0, d + 1, t, h => by
    obtain ⟨b1, b2, b3⟩ := dep_one h
    show 1 + (TrN.params t).length + (TrN.name t).size / 64 + ((TrN.params t).map (fun x => x.size / 64)).sum + 0 + 0 + 0 = 1 + (TrN.params t).length + (TrN.name t).size / 64 + ((TrN.params t).map (fun x => x.size / 64)).sum + ((TrN.binds t).map _).sum + ((TrN.args t).map _).sum + ((TrN.alts t).map _).sum
    rw [b1, b2, b3]; rfl
  | k + 1, d + 1, t, h => by
    have e1 : ((TrN.binds t).map (fun b => (b.1, down k d b.2))).map (fun b => 1 + b.1.size / 64 + cntM (k + 1) b.2) = (TrN.binds t).map fun b => 1 + b.1.size / 64 + cntM d b.2 := by
      rw [List.map_map]; exact map_congr' (fun x hx => by show 1 + x.1.size / 64 + cntM (k + 1) (down k d x.2) = _; rw [down_cnt k d _ (h.1 x hx)])
    have e2 : ((TrN.args t).map (down k d)).map (cntM (k + 1)) = (TrN.args t).map (cntM d) := by
      rw [List.map_map]; exact map_congr' (fun x hx => by show cntM (k + 1) (down k d x) = _; rw [down_cnt k d _ (h.2.1 x hx)])
    have e3 : ((TrN.alts t).map (fun a => (a.1, down k d a.2))).map (fun a => a.1.vars.length + a.1.name.size / 64 + cntM (k + 1) a.2 + (a.1.vars.map (fun x => x.size / 64)).sum) = (TrN.alts t).map fun a => a.1.vars.length + a.1.name.size / 64 + cntM d a.2 + (a.1.vars.map (fun x => x.size / 64)).sum := by
      rw [List.map_map]; exact map_congr' (fun x hx => by show x.1.vars.length + x.1.name.size / 64 + cntM (k + 1) (down k d x.2) + _ = _; rw [down_cnt k d _ (h.2.2 x hx)])
    show 1 + (TrN.params t).length + (TrN.name t).size / 64 + ((TrN.params t).map (fun x => x.size / 64)).sum + (((TrN.binds t).map (fun b => (b.1, down k d b.2))).map (fun b => 1 + b.1.size / 64 + cntM (k + 1) b.2)).sum + (((TrN.args t).map (down k d)).map (cntM (k + 1))).sum + (((TrN.alts t).map (fun a => (a.1, down k d a.2))).map (fun a => a.1.vars.length + a.1.name.size / 64 + cntM (k + 1) a.2 + (a.1.vars.map (fun x => x.size / 64)).sum)).sum = _
    rw [e1, e2, e3]; rfl
theorem down_val2 {W : World} {k d : Nat} {t : Tr (d + 1)} {v : Value} (hd : depLe (d + 1) t (k + 1)) (h : ExVal2 W d t v) : ExVal2 W k (down k (d + 1) t) v := by
  obtain ⟨o3, c3, o4, c4, o5, c5, o6, c6, e, k3, k4, k5, k6, hle⟩ := h
  cases k with
  | zero =>
    obtain ⟨b1, b2, b3⟩ := dep_one hd
    rw [b1, b2, b3] at e
    exact ⟨o3, c3, o4, c4, o5, c5, o6, c6, e, k3, .inl rfl, .inl rfl, .inl rfl, Nat.zero_le _⟩
  | succ k =>
    refine ⟨o3, c3, o4, c4, o5, c5, o6, c6, ?_, k3, ?_, ?_, ?_, ?_⟩
    · rw [e]
      show _ = Value.agg #[_, _, _, _, .slice o4 ((TrN.binds t).map _).length c4, .slice o5 ((TrN.args t).map _).length c5, .slice o6 ((TrN.alts t).map _).length c6]
      rw [List.length_map, List.length_map, List.length_map]; rfl
    · refine k4.mapM (f := fun (b : ByteArray × Tr d) => (b.1, down k d b.2)) ?_
      rintro x hx g off ⟨e1, e2, e3⟩
      exact ⟨e1, down_at k d _ _ _ (hd.1 x hx) e2, down_cp k d _ _ _ (hd.1 x hx) e3⟩
    · refine k5.mapM (f := down k d) ?_
      rintro x hx g off ⟨e2, e3⟩
      exact ⟨down_at k d _ _ _ (hd.2.1 x hx) e2, down_cp k d _ _ _ (hd.2.1 x hx) e3⟩
    · refine k6.mapM (f := fun (a : AltH × Tr d) => (a.1, down k d a.2)) ?_
      rintro x hx g off ⟨e1, e2, e3, e4, e5, e6⟩
      exact ⟨e1, e2, e3, e4, down_at k d _ _ _ (hd.2.2 x hx) e5, down_cp k d _ _ _ (hd.2.2 x hx) e6⟩
    · show ((TrN.alts t).map _).length ≤ _
      rw [List.length_map]; exact hle
theorem sum_le {α : Type} {f g : α → Nat} : ∀ {l : List α}, (∀ x ∈ l, f x ≤ g x) → (l.map f).sum ≤ (l.map g).sum
  | [], _ => Nat.le_refl _
  | x :: l, h => by
    rw [List.map_cons, List.map_cons, List.sum_cons, List.sum_cons]
    have := h x List.mem_cons_self
    have := sum_le (l := l) (fun y hy => h y (List.mem_cons_of_mem _ hy))
    omega
theorem mem_sum {α : Type} {f : α → Nat} : ∀ {l : List α} {x : α}, x ∈ l → f x ≤ (l.map f).sum
  | y :: l, x, h => by
    rw [List.map_cons, List.sum_cons]
    rcases List.mem_cons.1 h with rfl | h
    · omega
    · have := mem_sum (f := f) h; omega
theorem len_sumE {α : Type} {f : α → Nat} {l : List α} (h : ∀ x ∈ l, 1 ≤ f x) : l.length ≤ (l.map f).sum := by
  induction l with
  | nil => exact Nat.le_refl _
  | cons x l ih =>
    rw [List.map_cons, List.sum_cons, List.length_cons]
    have := h x List.mem_cons_self
    have := ih (fun y hy => h y (List.mem_cons_of_mem _ hy))
    omega
theorem sum_add {α : Type} {f g : α → Nat} {l : List α} : (l.map (fun x => f x + g x)).sum = (l.map f).sum + (l.map g).sum := by
  induction l with
  | nil => rfl
  | cons x l ih => rw [List.map_cons, List.map_cons, List.map_cons, List.sum_cons, List.sum_cons, List.sum_cons, ih]; omega
theorem cnt_pos {d : Nat} (t : Tr d) : 1 ≤ cntM d t := by
  cases d with
  | zero => exact nomatch t
  | succ d => show 1 ≤ 1 + _ + _ + _ + _ + _ + _; omega
theorem size_le_cnt : ∀ (d : Nat) (t : Tr d), sizeM d t ≤ cntM d t
  | 0, t => nomatch t
  | d + 1, t => by
    have e1 : ((TrN.binds t).map fun b => sizeM d b.2).sum ≤ ((TrN.binds t).map fun b => 1 + b.1.size / 64 + cntM d b.2).sum := sum_le (fun x _ => by have := size_le_cnt d x.2; omega)
    have e2 : ((TrN.args t).map (sizeM d)).sum ≤ ((TrN.args t).map (cntM d)).sum := sum_le (fun x _ => size_le_cnt d x)
    have e3 : ((TrN.alts t).map fun a => sizeM d a.2).sum ≤ ((TrN.alts t).map fun a => a.1.vars.length + a.1.name.size / 64 + cntM d a.2 + (a.1.vars.map (fun x => x.size / 64)).sum).sum := sum_le (fun x _ => by have := size_le_cnt d x.2; omega)
    show 1 + _ + _ + _ ≤ 1 + _ + _ + _ + _ + _ + _
    omega
theorem cost_le_cnt : ∀ (d : Nat) (t : Tr d), costM d t + sizeM d t ≤ cntM d t
  | 0, t => nomatch t
  | d + 1, t => by
    have e1 : (TrN.binds t).length + ((TrN.binds t).map fun b => costM d b.2).sum + ((TrN.binds t).map fun b => sizeM d b.2).sum ≤ ((TrN.binds t).map fun b => 1 + b.1.size / 64 + cntM d b.2).sum := by
      have h1 : ((TrN.binds t).map fun b => 1 + (costM d b.2 + sizeM d b.2)).sum ≤ ((TrN.binds t).map fun b => 1 + b.1.size / 64 + cntM d b.2).sum := sum_le (fun x _ => by have := cost_le_cnt d x.2; omega)
      have h2 : ((TrN.binds t).map fun b => 1 + (costM d b.2 + sizeM d b.2)).sum = ((TrN.binds t).map fun _ => 1).sum + ((TrN.binds t).map fun b => costM d b.2 + sizeM d b.2).sum := sum_add
      have h3 : ((TrN.binds t).map fun b => costM d b.2 + sizeM d b.2).sum = ((TrN.binds t).map fun b => costM d b.2).sum + ((TrN.binds t).map fun b => sizeM d b.2).sum := sum_add
      have h4 : (TrN.binds t).length ≤ ((TrN.binds t).map fun _ => 1).sum := len_sumE (fun _ _ => Nat.le_refl _)
      omega
    have e2 : ((TrN.args t).map (fun e => costM d e)).sum + ((TrN.args t).map (sizeM d)).sum ≤ ((TrN.args t).map (cntM d)).sum := by
      rw [← sum_add]
      exact sum_le (fun x _ => cost_le_cnt d x)
    have e3 : ((TrN.alts t).map fun a => a.1.vars.length + costM d a.2).sum + ((TrN.alts t).map fun a => sizeM d a.2).sum ≤ ((TrN.alts t).map fun a => a.1.vars.length + a.1.name.size / 64 + cntM d a.2 + (a.1.vars.map (fun x => x.size / 64)).sum).sum := by
      rw [← sum_add]
      exact sum_le (fun x _ => by have := cost_le_cnt d x.2; omega)
    have e0 : (bndM t).length = (TrN.params t).length + (TrN.binds t).length := by unfold bndM; rw [List.length_append, List.length_map]
    show ((bndM t).length + _ + _ + _) + (1 + _ + _ + _) ≤ 1 + _ + _ + _ + _ + _ + _
    omega
/-- What a tree that was read, and is small, is good for. -/
theorem fit_of : ∀ (d : Nat) (t : Tr d), WfT d t → cntM d t ≤ 1000000 → Fit d t
  | 0, t, _, _ => nomatch t
  | d + 1, t, h, hc => by
    obtain ⟨h0, h1, h2, ⟨b3, q3⟩, ⟨b4, q4⟩, ⟨b5, q5⟩, ⟨b6, q6⟩⟩ := h
    have hc' : 1 + (TrN.params t).length + (TrN.name t).size / 64 + ((TrN.params t).map (fun x => x.size / 64)).sum + ((TrN.binds t).map fun b => 1 + b.1.size / 64 + cntM d b.2).sum + ((TrN.args t).map (cntM d)).sum + ((TrN.alts t).map fun a => a.1.vars.length + a.1.name.size / 64 + cntM d a.2 + (a.1.vars.map (fun x => x.size / 64)).sum).sum ≤ 1000000 := hc
    have hLB : LB ≤ maxLen := by unfold LB maxLen; omega
    have c4 : (TrN.binds t).length ≤ ((TrN.binds t).map fun b => 1 + b.1.size / 64 + cntM d b.2).sum := len_sumE (fun x _ => by omega)
    have c5 : (TrN.args t).length ≤ ((TrN.args t).map (cntM d)).sum := len_sumE (fun x _ => cnt_pos x)
    have c6 : (TrN.alts t).length ≤ ((TrN.alts t).map fun a => a.1.vars.length + a.1.name.size / 64 + cntM d a.2 + (a.1.vars.map (fun x => x.size / 64)).sum).sum := len_sumE (fun x _ => by have := cnt_pos x.2; omega)
    refine ⟨⟨Nat.le_trans h1 hLB, ⟨by omega, fun x hx => Nat.le_trans (q3 x hx) hLB⟩, ⟨by omega, fun b hb => Nat.le_trans (q4 b hb).1 hLB⟩, by omega, by omega, fun a ha => ?_⟩, fun b hb => ?_, fun e he => ?_, fun a ha => ?_⟩
    · obtain ⟨p1, p2, p3, ⟨p4, p5⟩, p6⟩ := q6 a ha
      have := mem_sum (f := fun (a : AltH × Tr d) => a.1.vars.length + a.1.name.size / 64 + cntM d a.2 + (a.1.vars.map (fun x => x.size / 64)).sum) ha
      exact ⟨Nat.le_trans p2 hLB, by omega, fun x hx => Nat.le_trans (p5 x hx) hLB, p3⟩
    · have := mem_sum (f := fun (b : ByteArray × Tr d) => 1 + b.1.size / 64 + cntM d b.2) hb
      exact fit_of d _ (q4 b hb).2 (by omega)
    · have := mem_sum (f := cntM d) he
      exact fit_of d _ (q5 e he) (by omega)
    · have := mem_sum (f := fun (a : AltH × Tr d) => a.1.vars.length + a.1.name.size / 64 + cntM d a.2 + (a.1.vars.map (fun x => x.size / 64)).sum) ha
      exact fit_of d _ (q6 a ha).2.2.2.2 (by omega)
theorem nm_of : ∀ (d : Nat) (t : Tr d), WfT d t → NmOK d t
  | 0, t, _ => nomatch t
  | d + 1, t, h => by
    obtain ⟨h0, h1, h2, ⟨b3, q3⟩, ⟨b4, q4⟩, ⟨b5, q5⟩, ⟨b6, q6⟩⟩ := h
    have hLB : LB ≤ maxLen := by unfold LB maxLen; omega
    refine ⟨Nat.le_trans h1 hLB, fun x hx => ?_, fun b hb => nm_of d _ (q4 b hb).2, fun e he => nm_of d _ (q5 e he), fun a ha => ?_⟩
    · unfold bndM at hx
      rcases List.mem_append.1 hx with hx | hx
      · exact Nat.le_trans (q3 x hx) hLB
      · obtain ⟨b, hb, rfl⟩ := List.mem_map.1 hx
        exact Nat.le_trans (q4 b hb).1 hLB
    · obtain ⟨p1, p2, p3, ⟨p4, p5⟩, p6⟩ := q6 a ha
      exact ⟨fun x hx => Nat.le_trans (p5 x hx) hLB, nm_of d _ p6⟩
theorem allOwn_len : ∀ (d : Nat) (t : Tr d), (allN ownN d t).length ≤ cntM d t
  | 0, t => nomatch t
  | d + 1, t => by
    have fl : ∀ {α : Type} (l : List α) (f : α → List (List UInt8)), (l.flatMap f).length = (l.map (fun x => (f x).length)).sum := fun l f => by rw [List.length_flatMap]
    have e0 : (ownN d t).length ≤ 1 + (TrN.params t).length + (TrN.binds t).length + ((TrN.alts t).map (fun a => a.1.vars.length)).sum := by
      unfold ownN
      rw [List.length_append, List.length_append, List.length_append, fl]
      have a1 : (if TrN.kind t = 1 then [(TrN.name t).data.toList] else []).length ≤ 1 := by split <;> simp
      have a2 : (dl (TrN.params t)).length = (TrN.params t).length := by unfold dl; rw [List.length_map]
      have a3 : (dl ((TrN.binds t).map Prod.fst)).length = (TrN.binds t).length := by unfold dl; rw [List.length_map, List.length_map]
      have a4 : ((TrN.alts t).map (fun a => (dl a.1.vars).length)) = ((TrN.alts t).map (fun a => a.1.vars.length)) := map_congr' (fun x _ => by unfold dl; rw [List.length_map])
      rw [a4]
      omega
    have e1 : (TrN.binds t).length + ((TrN.binds t).map fun b => (allN ownN d b.2).length).sum ≤ ((TrN.binds t).map fun b => 1 + b.1.size / 64 + cntM d b.2).sum := by
      have h1 : ((TrN.binds t).map fun b => 1 + (allN ownN d b.2).length).sum ≤ ((TrN.binds t).map fun b => 1 + b.1.size / 64 + cntM d b.2).sum := sum_le (fun x _ => by have := allOwn_len d x.2; omega)
      have h2 : ((TrN.binds t).map fun b => 1 + (allN ownN d b.2).length).sum = ((TrN.binds t).map fun _ => 1).sum + ((TrN.binds t).map fun b => (allN ownN d b.2).length).sum := sum_add
      have h4 : (TrN.binds t).length ≤ ((TrN.binds t).map fun _ => 1).sum := len_sumE (fun _ _ => Nat.le_refl _)
      omega
    have e2 : ((TrN.args t).map (fun e => (allN ownN d e).length)).sum ≤ ((TrN.args t).map (cntM d)).sum := sum_le (fun x _ => allOwn_len d x)
    have e3 : ((TrN.alts t).map (fun a => a.1.vars.length)).sum + ((TrN.alts t).map fun a => (allN ownN d a.2).length).sum ≤ ((TrN.alts t).map fun a => a.1.vars.length + a.1.name.size / 64 + cntM d a.2 + (a.1.vars.map (fun x => x.size / 64)).sum).sum := by
      rw [← sum_add]
      exact sum_le (fun x _ => by have := allOwn_len d x.2; omega)
    show (ownN d t ++ ((TrN.binds t).flatMap (fun b => allN ownN d b.2) ++ ((TrN.args t).flatMap (fun e => allN ownN d e) ++ (TrN.alts t).flatMap (fun a => allN ownN d a.2)))).length ≤ 1 + _ + _ + _ + _ + _ + _
    rw [List.length_append, List.length_append, List.length_append, fl, fl, fl]
    omega
end Go.Proofs.YtegdloenakachaaGreatDoor
