/-
  Mathematics of groups: there is but one order.
-/
import Derived.Test.YtkkpkcigflikkaaMa
namespace Go.Proofs.Ytkkpkcigflikkaa.G
set_option linter.unusedVariables false

theorem sorted_eq : ∀ (l l' : List Nat), l.Pairwise (· < ·) → l'.Pairwise (· < ·) → (∀ x, x ∈ l ↔ x ∈ l') → l = l'
  | [], [], _, _, _ => rfl
  | [], b :: l', _, _, h => absurd ((h b).2 List.mem_cons_self) (by simp)
  | a :: l, [], _, _, h => absurd ((h a).1 List.mem_cons_self) (by simp)
  | a :: l, b :: l', h1, h2, h => by
    have ha := List.pairwise_cons.1 h1
    have hb := List.pairwise_cons.1 h2
    have e : a = b := by
      rcases List.mem_cons.1 ((h a).1 List.mem_cons_self) with e | e
      · exact e
      · have h3 := hb.1 a e
        rcases List.mem_cons.1 ((h b).2 List.mem_cons_self) with e2 | e2
        · exact e2.symm
        · have h4 := ha.1 b e2; omega
    subst e
    rw [sorted_eq l l' ha.2 hb.2 (fun x => ?_)]
    constructor
    · intro hx
      rcases List.mem_cons.1 ((h x).1 (List.mem_cons_of_mem _ hx)) with e | e
      · have := ha.1 x hx; omega
      · exact e
    · intro hx
      rcases List.mem_cons.1 ((h x).2 (List.mem_cons_of_mem _ hx)) with e | e
      · have := hb.1 x hx; omega
      · exact e
theorem gd_unique {n : Nat} {low : Nat → Nat} {E : List (Nat × Nat)} : ∀ (B B' A : List Nat), Gd n low E (A ++ B) → Gd n low E (A ++ B') → (A ++ B).Nodup → (A ++ B').Nodup → (∀ g, g ∈ A ++ B ↔ (g < n ∧ low g = g)) → (∀ g, g ∈ A ++ B' ↔ (g < n ∧ low g = g)) → B = B'
  | [], [], _, _, _, _, _, _, _ => rfl
  | [], g :: B', A, _, _, _, n2, m1, m2 => by
    have h1 := (m1 g).2 ((m2 g).1 (by simp))
    rw [List.append_nil] at h1
    exact absurd rfl ((List.nodup_append.1 n2).2.2 g h1 g (by simp))
  | g :: B, [], A, _, _, n1, _, m1, m2 => by
    have h1 := (m2 g).2 ((m1 g).1 (by simp))
    rw [List.append_nil] at h1
    exact absurd rfl ((List.nodup_append.1 n1).2.2 g h1 g (by simp))
  | g :: B, g' :: B', A, d1, d2, n1, n2, m1, m2 => by
    have a1 := d1 A g B rfl
    have a2 := d2 A g' B' rfl
    have hg := (m1 g).1 (by simp)
    have hg' := (m2 g').1 (by simp)
    have n3 : g ∉ A := fun e => absurd rfl ((List.nodup_append.1 n1).2.2 g e g (by simp))
    have n4 : g' ∉ A := fun e => absurd rfl ((List.nodup_append.1 n2).2.2 g' e g' (by simp))
    have l1 := a1.2 g' hg'.1 hg'.2 n4 a2.1
    have l2 := a2.2 g hg.1 hg.2 n3 a1.1
    have e : g = g' := by omega
    subst e
    have e1 : A ++ g :: B = (A ++ [g]) ++ B := by simp
    have e2 : A ++ g :: B' = (A ++ [g]) ++ B' := by simp
    rw [e1] at d1 n1 m1
    rw [e2] at d2 n2 m2
    rw [gd_unique B B' (A ++ [g]) d1 d2 n1 n2 m1 m2]
/-- Each in its turn, by going along. -/
def gdR (n : Nat) (low : Nat → Nat) (E : List (Nat × Nat)) (A : List Nat) : List Nat → Bool
  | [] => true
  | g :: B => (E.all (fun e => !(e.1 == g) || A.contains e.2)) && ((List.range n).all (fun h => !(low h == h) || A.contains h || !(E.all (fun e => !(e.1 == h) || A.contains e.2)) || decide (g ≤ h))) && gdR n low E (A ++ [g]) B
theorem ed_all {E : List (Nat × Nat)} {A : List Nat} {g : Nat} : E.all (fun e => !(e.1 == g) || A.contains e.2) = true ↔ ∀ c, (g, c) ∈ E → c ∈ A := by
  rw [List.all_eq_true]
  constructor
  · intro h c hc
    have := h (g, c) hc
    simpa using this
  · intro h e he
    by_cases e1 : e.1 = g
    · have := h e.2 (by rw [← e1]; exact he)
      simp [this]
    · simp [e1]
theorem gdR_of {n : Nat} {low : Nat → Nat} {E : List (Nat × Nat)} : ∀ (B A : List Nat), Gd n low E A → gdR n low E A B = true → Gd n low E (A ++ B)
  | [], A, h, _ => by simpa using h
  | g :: B, A, h, h2 => by
    simp only [gdR, Bool.and_eq_true] at h2
    obtain ⟨⟨h3, h4⟩, h5⟩ := h2
    have e1 : A ++ g :: B = (A ++ [g]) ++ B := by simp
    rw [e1]
    refine gdR_of B (A ++ [g]) (gd_snoc h (ed_all.1 h3) (fun x hx hl hn hE => ?_)) h5
    have h6 := List.all_eq_true.1 h4 x (List.mem_range.2 hx)
    have h7 := ed_all.2 hE
    simp only [hl, beq_self_eq_true, Bool.not_true, Bool.false_or, h7, Bool.or_false, Bool.or_eq_true, decide_eq_true_eq] at h6
    rcases h6 with h6 | h6
    · exact absurd (by simpa using h6) hn
    · exact h6
theorem fm_congr {α β : Type} {f g : α → Option β} : ∀ (l : List α), (∀ x ∈ l, f x = g x) → l.filterMap f = l.filterMap g
  | [], _ => rfl
  | a :: l, h => by
    rw [List.filterMap_cons, List.filterMap_cons, h a List.mem_cons_self, fm_congr l (fun x hx => h x (List.mem_cons_of_mem _ hx))]
theorem edL_congr {low low' : Nat → Nat} {adj : Nat → List Nat} {n : Nat} (hl : ∀ x, x < n → low x = low' x) (hadj : ∀ x, x < n → ∀ y ∈ adj x, y < n) : ∀ k, k ≤ n → edL low adj k = edL low' adj k
  | 0, _ => rfl
  | k + 1, h => by
    rw [edL_next, edL_next, edL_congr hl hadj k (by omega)]
    congr 1
    unfold edP
    refine fm_congr _ (fun q hq => ?_)
    unfold ed1
    rw [hl k (by omega), hl q (hadj k (by omega) q hq)]
/-- What is found by going along is what there is. -/
theorem the_groups {n : Nat} {adj : Nat → List Nat} {low low' : Nat → Nat} {grp : Nat → List Nat} {S S' : List Nat} {G' : Nat → List Nat} (hP : Parted n adj low grp) (hO : Ordered n adj low S) (hadj : ∀ x, x < n → ∀ y ∈ adj x, y < n) (hl : ∀ x, x < n → low x = low' x)
    (h1 : S'.Nodup) (h2 : ∀ g, g < n → (g ∈ S' ↔ low' g = g)) (h3 : ∀ g ∈ S', g < n) (h4 : gdR n low' (edL low' adj n) [] S' = true) (h5 : ∀ g ∈ S', (G' g).Pairwise (· < ·) ∧ (∀ x ∈ G' g, x < n ∧ low' x = g) ∧ (∀ x, x < n → low' x = g → x ∈ G' g)) : S.map grp = S'.map G' := by
  have hE := edL_congr hl hadj n (Nat.le_refl _)
  have hgd : Gd n low (edL low adj n) S' := by
    have h6 := gdR_of (n := n) (low := low') (E := edL low' adj n) S' [] (fun A g B e => by simp at e) h4
    rw [List.nil_append] at h6
    intro A g B e
    obtain ⟨a1, a2⟩ := h6 A g B e
    rw [hE]
    exact ⟨a1, fun h hh hl2 => a2 h hh (by rw [← hl h hh]; exact hl2)⟩
  have hS : S = S' := gd_unique S S' [] (by simpa using hO.gd) (by simpa using hgd) (by simpa using hO.nd) (by simpa using h1) (fun g => by simpa using hO.all g) (fun g => by
    rw [List.nil_append]
    constructor
    · intro h; exact ⟨h3 g h, by rw [hl g (h3 g h)]; exact (h2 g (h3 g h)).1 h⟩
    · intro h; exact (h2 g h.1).2 (by rw [← hl g h.1]; exact h.2))
  subst hS
  refine List.map_congr_left (fun g hg => ?_)
  have hgn := h3 g hg
  have hgl : low g = g := (hO.all g).1 hg |>.2
  obtain ⟨b1, b2⟩ := hP.gr g hgn hgl
  obtain ⟨c1, c2, c3⟩ := h5 g hg
  refine sorted_eq _ _ b1 c1 (fun x => (b2 x).trans ⟨fun ⟨x1, x2⟩ => c3 x x1 (by rw [← hl x x1]; exact x2), fun hx => ?_⟩)
  have := c2 x hx
  exact ⟨this.1, by rw [hl x this.1]; exact this.2⟩
theorem not_rch {adj : Nat → List Nat} (C : List Nat) {a b : Nat} (h1 : C.all (fun x => (adj x).all (fun y => C.contains y)) = true) (ha : C.contains a = true) (hb : C.contains b = false) : ¬ Rch adj a b := fun h => by
  have := Rch.closed (fun z => C.contains z = true) (fun x hx y hy => by
    have h2 := List.all_eq_true.1 h1 x (by simpa using hx)
    exact List.all_eq_true.1 h2 y hy) h ha
  rw [hb] at this; cases this
theorem low_self {n : Nat} {adj : Nat → List Nat} {low : Nat → Nat} {grp : Nat → List Nat} (hP : Parted n adj low grp) {x : Nat} (hx : x < n) (h : ∀ y, y < x → ¬ Scc adj x y) : low x = x := by
  obtain ⟨h1, h2, _⟩ := hP.lo x hx
  rcases Nat.lt_or_ge (low x) x with h3 | h3
  · exact absurd h1 (h _ h3)
  · omega
end Go.Proofs.Ytkkpkcigflikkaa.G
