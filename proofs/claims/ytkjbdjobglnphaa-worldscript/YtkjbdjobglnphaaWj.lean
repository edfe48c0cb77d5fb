/-
  Rows of bytes of one's own; bytes that were handed in.
-/
import Derived.Test.YtkjbdjobglnphaaWg
import Derived.Maps.AppendAt
import Derived.Laws.AppendOwnNone
import Derived.Laws.OwnMore
namespace Go.Proofs.Ytkjbdjobglnphaa
open Go.RowKit Go.Shelf Go.Maps Go.Conc
set_option linter.unusedVariables false

def vals (l : List Int) : List Value := l.map fun x => Value.int .u8 x
theorem vals_len (l : List Int) : (vals l).length = l.length := by simp [vals]
theorem vals_app (a b : List Int) : vals (a ++ b) = vals a ++ vals b := by simp [vals]
theorem vals_at {l : List Int} {j : Nat} {u : Value} (h : (vals l)[j]? = some u) : ∃ x, l[j]? = some x ∧ u = .int .u8 x := by
  simp [vals] at h
  obtain ⟨x, h1, h2⟩ := h
  exact ⟨x, h1, h2.symm⟩
/-- Bytes, as a value. -/
def BytV (W : World) (v : Value) (l : List Int) : Prop := ∃ o c, v = .slice o l.length c ∧ (o = none → l = [] ∧ c = 0) ∧ (l.length : Int) ≤ 9223372036854775807 ∧ BytAt W o l

theorem owns_same {W W' : World} {b e z n : Nat} {v : Value} {xs : List Value} (h : W.ownsRow b e z v n xs) (hb : ∀ g, v.ownBlock = some g → W'.heap[g]? = W.heap[g]?) : W'.ownsRow b e z v n xs := by
  rcases h with ⟨hl, h | ⟨g, cap, cur, h1, h2, h3, h4⟩⟩
  · exact ⟨hl, .inl h⟩
  · refine ⟨hl, .inr ⟨g, cap, cur, h1, h2, ?_, h4⟩⟩
    rw [hb g (by rw [h1]; rfl)]; exact h3
theorem owns_form {W : World} {b e z n : Nat} {v : Value} {xs : List Value} (h : W.ownsRow b e z v n xs) : ∃ (o : Option Addr) (c : Nat), v = .slice o n c ∧ n ≤ c ∧ c ≤ 9223372036854775807 := by
  rcases h with ⟨_, ⟨rfl, rfl⟩ | ⟨g, cap, cur, h, _, _, h1, h2, _⟩⟩
  · exact ⟨none, 0, rfl, Nat.le_refl _, by decide⟩
  · exact ⟨_, cap, h, h1, by unfold maxLen at h2; omega⟩
/-- A row's block is neither a world's nor a channel's. -/
theorem owns_ne_blk {W : World} {b e z n : Nat} {v : Value} {xs : List Value} (h : W.ownsRow b e z v n xs) {B : Nat} {vs : Array Value} {T : TypeId} (hb : Blk W B vs T) (hT : T ≠ e) : v.ownBlock ≠ some B := by
  rcases h with ⟨_, ⟨rfl, rfl⟩ | ⟨g, cap, cur, rfl, h1, h2, _⟩⟩
  · intro e; cases e
  · intro e
    cases e
    have h3 : W.heap[g]? = some (.cells vs T (0, 0)) := hb
    rw [h2] at h3
    cases h3
    exact hT rfl
theorem owns_ne_ch {W : World} {b e z n : Nat} {v : Value} {xs : List Value} (h : W.ownsRow b e z v n xs) {C cap : Nat} {u : List Int} (hc : ChAt W C cap u) : v.ownBlock ≠ some C := by
  obtain ⟨s, r, hc⟩ := hc
  rcases h with ⟨_, ⟨rfl, rfl⟩ | ⟨g, cap, cur, rfl, h1, h2, _⟩⟩
  · intro e; cases e
  · intro e
    cases e
    rw [h2] at hc
    cases hc
/-- A row of bytes of one's own can be read. -/
theorem owns_byt {W : World} {b : Nat} {o : Option Addr} {c : Nat} {l : List Int} (h : W.ownsRow b 5 1 (.slice o l.length c) l.length (vals l)) : BytAt W o l := by
  by_cases hl : l = []
  · exact .inl hl
  · obtain ⟨g, hg⟩ : ∃ g, o = some ⟨g, 0, none⟩ := by
      rcases h with ⟨_, ⟨h1, h2⟩ | ⟨g, cap, cur, h1, _⟩⟩
      · exact absurd (List.length_eq_zero_iff.1 h2) hl
      · cases h1; exact ⟨g, rfl⟩
    subst hg
    refine .inr ⟨g, 0, rfl, (h.lt g rfl).2, fun j x hx => ?_⟩
    have hj : j < l.length := (List.getElem?_eq_some_iff.1 hx).1
    have := h.cellAt j (by omega)
    rw [Nat.zero_add, this]
    simp [vals, hx]
theorem grown_oth {W W' : World} {ob : Option Nat} (h : W.grownBy W' ob) : Oth (fun k => ob = some k) W W' := ⟨h.os, h.tape, h.output, h.size, fun k hk hn => h.block k hk (fun e => hn e.symm)⟩
theorem infoByte : ∃ i, Try.prog.info? 5 = some i ∧ i.zero = some (.int .u8 0) ∧ i.size = 1 ∧ i.bytes = 1 := ⟨_, rfl, rfl, rfl, rfl⟩
/-- append(s, x...) of bytes, s being a row of one's own. -/
theorem app_bytes {w : World} {ops : Array Oper} {rest : List Oper} {o : Oper} {a : Act} {Q : Exit → Act → World → Prop} (hgd : o.guard = none) (s x : Operand)
    (ho : o.op = .call { callee := .builtin .append, args := #[s, x], argTypes := #[27, 27] }) (base : Nat) (v : Value) (n : Nat) (A : List Int) (hA : A.length = n) (hs : a.eval s = v) (hown : w.ownsRow base 5 1 v n (vals A))
    (ob : Option Addr) (m c : Nat) (l : List Int) (hx : a.eval x = .slice ob m c) (hm : l.length = m) (hn : ob = none → l = [] ∧ c = 0) (hb : BytAt w ob l) (hlen : n + l.length ≤ 10000000) (hbase : base ≤ w.heap.size)
    (h : ∀ o' c' w', w'.ownsRow base 5 1 (.slice o' (n + m) c') (A ++ l).length (vals (A ++ l)) → Oth (fun k => v.ownBlock = some k) w w' → (Value.ownBlock (.slice o' (n + m) c') = v.ownBlock ∨ Value.ownBlock (.slice o' (n + m) c') = some w.heap.size) → wpList Try.prog ops Q rest (a.put o.dst (.slice o' (n + m) c')) w') : wpList Try.prog ops Q (o :: rest) a w := by
  obtain ⟨i, hi, hz, hsz, hby⟩ := infoByte
  subst hm
  subst hA
  cases ob with
  | none =>
    obtain ⟨rfl, rfl⟩ := hn rfl
    obtain ⟨o', c', e, -, -⟩ := owns_form hown
    subst e
    refine wpList_append_own_none hgd s x 27 ho base 5 i 1 Try.underlying27 hi _ _ _ hs hown hx ?_
    exact h o' c' w (by simpa using hown) (Oth.refl _ _) (.inl rfl)
  | some ad =>
    refine wpList_append_own_at w hgd s x 27 ho base 5 i (.int .u8 0) 1 1 Try.underlying27 hi hz hsz hby rfl (by decide) v A.length (vals A) hs hown ad l.length c (vals l) hx (by simp [vals_len]) ?_ ?_ (by unfold maxLen; omega) (by omega) hbase ?_
    · intro j u hu
      obtain ⟨y, h1, rfl⟩ := vals_at hu
      obtain ⟨g, off, e, _, h2⟩ := hb.at h1
      cases e
      rw [Addr.add_lit]
      exact h2
    · intro u hu
      simp [vals] at hu
      obtain ⟨y, _, rfl⟩ := hu
      rfl
    · intro v' w' h1 h2 h3 h4
      obtain ⟨o', c', e, -, -⟩ := owns_form h1
      subst e
      exact h o' c' w' (by rw [List.length_append, vals_app]; exact h1) (grown_oth h2) h4
end Go.Proofs.Ytkjbdjobglnphaa
