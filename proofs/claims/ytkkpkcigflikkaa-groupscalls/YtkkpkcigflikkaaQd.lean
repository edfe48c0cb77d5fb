/-
  Mathematics of groups: whose turn it is, as the document finds it.
-/
import Derived.Test.YtkkpkcigflikkaaQc
namespace Go.Proofs.Ytkkpkcigflikkaa
open G
set_option linter.unusedVariables false
section
variable {n : Nat} {adj : Nat → List Nat} {low : Nat → Nat} {grp : Nat → List Nat} {S : List Nat} {lv : Nat → Nat → Bool} {r : Nat}

theorem Ln.of {a p q : Nat} (h : Rch adj a p) (hq : q ∈ adj p) : Ln adj a q := by
  obtain ⟨k, hk⟩ := h
  cases k with
  | zero => cases hk; exact ⟨q, hq, .refl q⟩
  | succ k => obtain ⟨c, hc, hr⟩ := hk; exact ⟨c, hc, (show Rch adj c p from ⟨k, hr⟩).trans (.edge hq)⟩
theorem Ln.rch {a b : Nat} (h : Ln adj a b) : Rch adj a b := by obtain ⟨c, h1, h2⟩ := h; exact .step h1 h2
theorem Ln.ne {a b : Nat} (h : Rch adj a b) (hne : a ≠ b) : Ln adj a b := by
  obtain ⟨k, hk⟩ := h
  cases k with
  | zero => exact absurd hk hne
  | succ k => obtain ⟨c, hc, hr⟩ := hk; exact ⟨c, hc, k, hr⟩
theorem low_scc (hP : Parted n adj low grp) {x y : Nat} (hx : x < n) (hy : y < n) (h : low x = low y) : Scc adj x y := by
  have s1 := (hP.lo x hx).1
  have s2 := (hP.lo y hy).1
  rw [h] at s1
  exact s1.trans s2.symm
theorem turn_at (hP : Parted n adj low grp) (hO : Ordered n adj low S) (hr : r < S.length) : S[r] < n ∧ low S[r] = S[r] ∧ pos low S S[r] = r := by
  have h1 := (hO.all S[r]).1 (List.getElem_mem hr)
  refine ⟨h1.1, h1.2, ?_⟩
  have h2 := (pos_at hP hO h1.1).trans h1.2
  exact (List.getElem_inj (h₀ := pos_lt hP hO h1.1) (h₁ := hr) hO.nd).1 h2
theorem pos_rch (hP : Parted n adj low grp) (hO : Ordered n adj low S) (hadj : ∀ x, x < n → ∀ y ∈ adj x, y < n) {a b : Nat} (ha : a < n) (h : Rch adj a b) : b < n ∧ pos low S b ≤ pos low S a := by
  have := Rch.closed (fun z => z < n ∧ pos low S z ≤ pos low S a) (fun z hz y hy => ⟨hadj z hz.1 y hy, Nat.le_trans (pos_le hP hO hz.1 (hadj z hz.1 y hy) hy) hz.2⟩) h ⟨ha, Nat.le_refl _⟩
  exact this
theorem pos_eq (hP : Parted n adj low grp) (hO : Ordered n adj low S) {x y : Nat} (hx : x < n) (hy : y < n) (h : pos low S x = pos low S y) : low x = low y := by
  have h1 := pos_at hP hO hx
  have h2 := pos_at hP hO hy
  rw [← h1, ← h2]
  congr 1
theorem turn_ready (hP : Parted n adj low grp) (hO : Ordered n adj low S) (hadj : ∀ x, x < n → ∀ y ∈ adj x, y < n) (hlv : ∀ i, i < n → ∀ k, k < n → (lv i k = true ↔ Ln adj i k)) (hr : r < S.length) : rdB n lv (fun k => decide (pos low S k < r)) S[r] = true := by
  obtain ⟨h1, h2, h3⟩ := turn_at hP hO hr
  refine rdB_true (fun k hk => ?_)
  cases e : keepB lv (fun k => decide (pos low S k < r)) S[r] k with
  | false => rfl
  | true =>
    unfold keepB at e
    simp only [Bool.and_eq_true, Bool.not_eq_true', decide_eq_false_iff_not, beq_eq_false_iff_ne] at e
    obtain ⟨⟨⟨e1, e2⟩, e3⟩, e4⟩ := e
    have k1 := ((hlv _ h1 k hk).1 e1).rch
    have k2 := (pos_rch hP hO hadj h1 k1).2
    rw [h3] at k2
    have k3 : pos low S k = pos low S S[r] := by omega
    have k4 := low_scc hP hk h1 (pos_eq hP hO hk h1 k3)
    have k5 := (hlv k hk _ h1).2 (Ln.ne k4.1 e3)
    rw [k5] at e4; cases e4
theorem turn_first (hP : Parted n adj low grp) (hO : Ordered n adj low S) (hadj : ∀ x, x < n → ∀ y ∈ adj x, y < n) (hlv : ∀ i, i < n → ∀ k, k < n → (lv i k = true ↔ Ln adj i k)) (hr : r < S.length) {i : Nat} (hi : i < n) (hp : ¬ pos low S i < r) (h : rdB n lv (fun k => decide (pos low S k < r)) i = true) : S[r] ≤ i := by
  have hli := hP.lo i hi
  have hln : low i < n := low_lt hP hi
  have hspl : S = S.take r ++ S[r] :: S.drop (r + 1) := by
    conv => lhs; rw [← List.take_append_drop r S, List.drop_eq_getElem_cons hr]
  have h1 : low i ∉ S.take r := fun h9 => by
    obtain ⟨j, hj, hj2⟩ := List.mem_iff_getElem.1 h9
    rw [List.length_take] at hj
    rw [List.getElem_take] at hj2
    have h4 := pos_at hP hO hi
    have h5 := (List.getElem_inj (h₀ := (by omega : j < S.length)) (h₁ := pos_lt hP hO hi) hO.nd).1 (by rw [h4, hj2])
    omega
  have h2 := (hO.gd _ _ _ hspl).2 (low i) hln hli.2.2 h1 (fun c hc => by
    obtain ⟨p, q, hp1, hq, hlp, hlq, hne⟩ := edL_mem hc
    have hqn := hadj p hp1 q hq
    have s1 := low_scc hP hi hp1 hlp.symm
    have l1 : Ln adj i q := Ln.of s1.1 hq
    have hkeep : keepB lv (fun k => decide (pos low S k < r)) i q = false := by
      unfold rdB at h
      have := List.all_eq_true.1 h q (List.mem_range.2 hqn)
      simpa using this
    by_cases hpq : pos low S q < r
    · have hq2 := pos_at hP hO hqn
      rw [hlq] at hq2
      rw [← hq2]
      have : (S.take r)[pos low S q]'(by rw [List.length_take]; have := pos_lt hP hO hqn; omega) = S[pos low S q]'(pos_lt hP hO hqn) := List.getElem_take
      rw [← this]
      exact List.getElem_mem _
    · exfalso
      have k1 : lv i q = true := (hlv i hi q hqn).2 l1
      have k2 : q ≠ i := fun e => by rw [e] at hlq; exact hne hlq
      have k3 : lv q i = false := by
        cases e : lv q i with
        | false => rfl
        | true =>
          have l2 := (hlv q hqn i hi).1 e
          have := hP.ls i q hi hqn ⟨l1.rch, l2.rch⟩
          exact absurd (this.symm.trans hlq) hne
      unfold keepB at hkeep
      rw [k1, k3] at hkeep
      simp [hpq, k2] at hkeep)
  omega
theorem turn_group (hP : Parted n adj low grp) (hO : Ordered n adj low S) (hlv : ∀ i, i < n → ∀ k, k < n → (lv i k = true ↔ Ln adj i k)) (hr : r < S.length) {k : Nat} (hk : k < n) : (k == S[r] || (lv S[r] k && lv k S[r])) = decide (k ∈ grp S[r]) := by
  obtain ⟨h1, h2, h3⟩ := turn_at hP hO hr
  have hm := mem_grp hP hO (List.getElem_mem hr) (x := k)
  by_cases e : k ∈ grp S[r]
  · rw [decide_eq_true e]
    have hlk := (hm.1 e).2
    by_cases e2 : k = S[r]
    · rw [Bool.or_eq_true]; left; simpa using e2
    · have s1 := low_scc hP hk h1 (hlk.trans h2.symm)
      rw [(hlv _ h1 k hk).2 (Ln.ne s1.2 (Ne.symm e2)), (hlv k hk _ h1).2 (Ln.ne s1.1 e2)]
      simp
  · rw [decide_eq_false e]
    cases e2 : (k == S[r] || (lv S[r] k && lv k S[r])) with
    | false => rfl
    | true =>
      exfalso
      rw [Bool.or_eq_true, Bool.and_eq_true] at e2
      rcases e2 with e2 | ⟨e2, e3⟩
      · have : k = S[r] := by simpa using e2
        exact e (hm.2 ⟨hk, by rw [this]; exact h2⟩)
      · have l1 := (hlv _ h1 k hk).1 e2
        have l2 := (hlv k hk _ h1).1 e3
        have := hP.ls _ k h1 hk ⟨l1.rch, l2.rch⟩
        exact e (hm.2 ⟨hk, by rw [this]; exact h2⟩)
theorem turn_mem (hP : Parted n adj low grp) (hO : Ordered n adj low S) (hr : r < S.length) {k : Nat} (hk : k < n) : k ∈ grp S[r] ↔ pos low S k = r := by
  obtain ⟨h1, h2, h3⟩ := turn_at hP hO hr
  rw [mem_grp hP hO (List.getElem_mem hr)]
  constructor
  · rintro ⟨_, h⟩
    unfold pos; rw [h]
    have := h3; unfold pos at this; rw [h2] at this; exact this
  · intro h
    exact ⟨hk, (pos_eq hP hO hk h1 (by rw [h, h3])).trans h2⟩
theorem grp_filter (hP : Parted n adj low grp) (hO : Ordered n adj low S) (hr : r < S.length) : (List.range n).filter (fun k => decide (k ∈ grp S[r])) = grp S[r] := by
  obtain ⟨h1, h2, h3⟩ := turn_at hP hO hr
  refine sorted_eq _ _ ?_ (hP.gr _ h1 h2).1 (fun x => ?_)
  · exact List.Pairwise.filter _ (by rw [List.pairwise_iff_getElem]; intro i j hi hj hij; simpa using hij)
  · rw [List.mem_filter, List.mem_range]
    constructor
    · intro h; simpa using h.2
    · intro h; exact ⟨((mem_grp hP hO (List.getElem_mem hr)).1 h).1, by simpa using h⟩
/-- How many stand already. -/
def stood (grp : Nat → List Nat) (S : List Nat) (r : Nat) : Nat := ((S.take r).map (fun g => (grp g).length)).sum
theorem stood_next (hr : r < S.length) : stood grp S (r + 1) = stood grp S r + (grp S[r]).length := by
  unfold stood
  rw [List.take_add_one, List.getElem?_eq_getElem hr, List.map_append, List.sum_append]
  simp
theorem stood_all (hP : Parted n adj low grp) (hO : Ordered n adj low S) (hr : S.length ≤ r) : stood grp S r = n := by
  unfold stood
  rw [List.take_of_length_le hr]
  exact all_len hP hO
theorem stood_lt (hP : Parted n adj low grp) (hO : Ordered n adj low S) (hr : r < S.length) : stood grp S r + (grp S[r]).length ≤ n ∧ 0 < (grp S[r]).length := by
  obtain ⟨h1, h2, h3⟩ := turn_at hP hO hr
  constructor
  · rw [← stood_next hr]
    have h4 := all_len hP hO
    unfold stood
    rw [← h4]
    conv => rhs; rw [← List.take_append_drop (r + 1) S, List.map_append, List.sum_append]
    omega
  · exact List.length_pos_of_mem ((mem_grp hP hO (List.getElem_mem hr)).2 ⟨h1, h2⟩)
end
end Go.Proofs.Ytkkpkcigflikkaa
