/-
  The document's place, reach, ready, by contracts.
-/
import Derived.Test.YtkkpkcigflikkaaOb
import Derived.Test.YtkkpkcigflikkaaLc
namespace Go.Proofs.Ytkkpkcigflikkaa
open Go.RowKit Go.Shelf Go.Maps G
set_option linter.unusedVariables false

/-- Where a text stands, or -1. -/
def ixI (l : List (List UInt8)) (s : List UInt8) : Int := match ixO l s with
  | some p => (p : Int)
  | none => -1
theorem ixI_some {l : List (List UInt8)} {s : List UInt8} {p : Nat} (h : ixO l s = some p) : ixI l s = (p : Int) := by unfold ixI; rw [h]
theorem ixI_none {l : List (List UInt8)} {s : List UInt8} (h : ixO l s = none) : ixI l s = -1 := by unfold ixI; rw [h]
theorem ixO_first {l : List (List UInt8)} {k : Nat} (hk : k < l.length) (h : l[k] ∉ l.take k) : ixO l l[k] = some k := by
  unfold ixO
  rw [if_pos (List.getElem_mem hk)]
  congr 1
  have h1 : l.idxOf l[k] < l.length := List.idxOf_lt_length_iff.2 (List.getElem_mem hk)
  have h2 : l[l.idxOf l[k]] = l[k] := List.getElem_idxOf h1
  rcases Nat.lt_trichotomy (l.idxOf l[k]) k with h3 | h3 | h3
  · refine absurd ?_ h
    rw [← h2]
    have h4 : l.idxOf l[k] < (l.take k).length := by rw [List.length_take]; omega
    have h5 : (l.take k)[l.idxOf l[k]] = l[l.idxOf l[k]] := List.getElem_take
    rw [← h5]
    exact List.getElem_mem h4
  · exact h3
  · have h6 : l = l.take k ++ l[k] :: l.drop (k + 1) := by
      conv => lhs; rw [← List.take_append_drop k l, List.drop_eq_getElem_cons hk]
    have h7 : l.idxOf l[k] = k := by
      generalize l[k] = x at h h6 ⊢
      rw [h6, List.idxOf_append, if_neg h, List.idxOf_cons_self, List.length_take]
      omega
    omega
set_option maxHeartbeats 4000000 in
set_option maxRecDepth 100000 in
theorem rplace_c (v : Value) (l : List (List UInt8)) (s : List UInt8) (hl : l.length ≤ 1000000) (w : World) (h : StrAt w v l) : Calls Try.prog 25 #[v, .string (bs s)] w fun r W' => r = .returned (.int .i64 (ixI l s)) ∧ W' = w := by
  obtain ⟨o, cap, hv, hc1, hc2⟩ := h.slice
  have HU : Hid (StrAt w v l) := h
  obtain ⟨n, hn⟩ : ∃ n, l.length = n := ⟨_, rfl⟩
  have HN : Hid (l.length = n) := hn
  have hni : (n : Int) ≤ 1000000 := by omega
  rw [hn] at hv
  subst hv
  clear h hc1 hc2 hn hl
  go_enter Try.func25, Try.ntmps25
  go_wp2
  go_loopw [5] (fun v5 wr => ∃ k : Nat, v5 = .int .i64 (k : Int) ∧ wr = w ∧ Hid (k ≤ n ∧ s ∉ l.take k)) (fun v _ => n - (intOf v).toNat)
  case atStart => exact ⟨0, rfl, rfl, ⟨Nat.zero_le _, by simp⟩⟩
  case round =>
    obtain ⟨k, rfl, hwr, HI⟩ := hrel
    have hwr := hwr.symm
    subst hwr
    by_cases hk : k < n
    · have hkl : k < l.length := by rw [HN.out]; exact hk
      obtain ⟨g, off, cp, e1, hg, hcj, hsz⟩ := HU.out.at hkl
      obtain ⟨rfl, -⟩ : o = some ⟨g, off, none⟩ ∧ True := by cases e1; exact ⟨rfl, trivial⟩
      have hki : (k : Int) < (n : Int) := by omega
      obtain ⟨y, hy⟩ : ∃ y, l[k] = y := ⟨_, rfl⟩
      have HK : Hid (k < n ∧ l.take (k + 1) = l.take k ++ [y] ∧ ∃ h : k < l.length, l[k] = y) := ⟨hk, by rw [List.take_succ_eq_append_getElem hkl, hy], hkl, hy⟩
      rw [hy] at hcj
      clear hk e1 hkl hy hsz
      by_cases hxy : y = s
      · subst hxy
        have h0 : ((bs y).toList == (bs y).toList) = true := by simp
        go_wp2
        go_ret
        obtain ⟨q1, q2⟩ := HK.out.2.2
        have q3 := HI.out.2
        rw [← q2] at q3
        have q4 := ixO_first q1 q3
        rw [q2] at q4
        rw [ixI_some q4]
        exact ⟨rfl, rfl⟩
      · have h0 : ((bs y).toList == (bs s).toList) = false := by rw [beq_eq_false_iff_ne, ByteArray.toList_eq, ByteArray.toList_eq]; exact hxy
        have HX : Hid (¬ y = s) := hxy
        clear hxy
        go_wp2
        refine ⟨⟨k + 1, by congr 1, trivial, ⟨HK.out.1, ?_⟩⟩, ?_⟩
        · rw [HK.out.2.1]
          intro h9
          rcases List.mem_append.1 h9 with h9 | h9
          · exact HI.out.2 h9
          · simp at h9; exact HX.out h9.symm
        · show n - ((k : Int) + 1).toNat < n - ((k : Int)).toNat
          have := HK.out.1; omega
    · have hki : ¬ (k : Int) < (n : Int) := by omega
      have HX : Hid (ixI l s = -1) := by
        show _ = _
        have h1 := HI.out.2
        rw [List.take_of_length_le (by have := HN.out; omega)] at h1
        exact ixI_none (by unfold ixO; rw [if_neg h1])
      clear hk
      go_wp2
      go_ret
      rw [HX.out]
      exact ⟨rfl, rfl⟩

/-- Whom one leans on: by one step and more. -/
def Ln (adj : Nat → List Nat) (a b : Nat) : Prop := ∃ c, c ∈ adj a ∧ Rch adj c b
/-- How the search of one's leaning stands. -/
structure RrI (w W : World) (n : Nat) (adj : Nat → List Nat) (src : Nat) (ex : Nat → Prop) (B : Nat) (O : Nat → Bool) (td : List Nat) (tv : Value) (G : Nat) : Prop where
  ob : FB W B n (fun i => .bool (O i)) 4
  own : W.ownsRow (B + 1) 3 1 tv td.length (td.map nv)
  a : ∀ y, y < n → O y = true → Ln adj src y
  b : ∀ x ∈ td, x < n ∧ (x = src ∨ O x = true)
  c : ∀ x, x < n → (x = src ∨ O x = true) → x ∈ td ∨ ex x ∨ ∀ y ∈ adj x, O y = true
  m : ((List.range n).filter (fun y => !(O y))).length + td.length ≤ G
  g : G ≤ n + 1
  bl : Below B w W
theorem filter_upd {n : Nat} {O : Nat → Bool} {y : Nat} (hy : y < n) (hO : O y = false) : ((List.range n).filter (fun z => !(upd O y true z))).length + 1 = ((List.range n).filter (fun z => !(O z))).length := by
  induction n with
  | zero => omega
  | succ n ih =>
    rw [List.range_succ, List.filter_append, List.filter_append, List.length_append, List.length_append]
    by_cases e : y = n
    · subst e
      have h1 : (List.range y).filter (fun z => !(upd O y true z)) = (List.range y).filter (fun z => !(O z)) := by
        apply List.filter_congr
        intro z hz
        have hz : z < y := List.mem_range.1 hz
        rw [upd_ne _ _ (by omega)]
      rw [h1]
      simp [upd_at, hO]
    · have h1 := ih (by omega)
      have h2 : [n].filter (fun z => !(upd O y true z)) = [n].filter (fun z => !(O z)) := by
        apply List.filter_congr
        intro z hz
        simp at hz
        rw [upd_ne _ _ (by omega)]
      rw [h2]
      omega
end Go.Proofs.Ytkkpkcigflikkaa
