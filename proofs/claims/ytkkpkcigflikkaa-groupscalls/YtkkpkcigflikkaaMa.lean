/-
  Mathematics of groups: the order in which they stand.
-/
import Derived.Test.YtkkpkcigflikkaaLd
namespace Go.Proofs.Ytkkpkcigflikkaa.G
set_option linter.unusedVariables false

/-- How many uses of others that do not stand yet. -/
def cnt (E : List (Nat × Nat)) (S : List Nat) (u : Nat) : Nat := (E.filter (fun e => e.1 == u && !(S.contains e.2))).length
theorem cnt_nil (E : List (Nat × Nat)) (u : Nat) : cnt E [] u = waF E u := by
  unfold cnt waF; congr 1; apply List.filter_congr; intro x _; simp
theorem cnt_cons (e : Nat × Nat) (E : List (Nat × Nat)) (S : List Nat) (u : Nat) : cnt (e :: E) S u = (if e.1 = u ∧ e.2 ∉ S then 1 else 0) + cnt E S u := by
  unfold cnt
  by_cases h : e.1 = u ∧ e.2 ∉ S
  · rw [if_pos h, List.filter_cons_of_pos (by simp [h.1, h.2]), List.length_cons]; omega
  · rw [if_neg h, List.filter_cons_of_neg (by simpa using h)]; omega
theorem usF_cons (e : Nat × Nat) (E : List (Nat × Nat)) (s : Nat) : usF (e :: E) s = if e.2 = s then e.1 :: usF E s else usF E s := by
  unfold usF
  by_cases h : e.2 = s
  · rw [if_pos h, List.filter_cons_of_pos (by simp [h])]; rfl
  · rw [if_neg h, List.filter_cons_of_neg (by simpa using h)]
theorem cnt_snoc (S : List Nat) (s u : Nat) (hs : s ∉ S) : ∀ E : List (Nat × Nat), cnt E S u = cnt E (S ++ [s]) u + (usF E s).count u
  | [] => by simp [cnt, usF]
  | e :: E => by
    rw [cnt_cons, cnt_cons, usF_cons, cnt_snoc S s u hs E]
    by_cases h1 : e.2 = s
    · rw [if_pos h1, List.count_cons]
      have h2 : e.2 ∉ S := by rw [h1]; exact hs
      have h3 : ¬ (e.1 = u ∧ e.2 ∉ S ++ [s]) := by simp [h1]
      rw [if_neg h3]
      by_cases h4 : e.1 = u
      · rw [if_pos ⟨h4, h2⟩]; simp [h4]; omega
      · rw [if_neg (fun h => h4 h.1)]; simp [h4]
    · rw [if_neg h1]
      by_cases h4 : e.1 = u ∧ e.2 ∉ S
      · rw [if_pos h4, if_pos ⟨h4.1, by simp [h4.2, h1]⟩]; omega
      · rw [if_neg h4, if_neg (fun h => h4 ⟨h.1, fun h5 => h.2 (List.mem_append_left _ h5)⟩)]; omega
theorem cnt_zero (S : List Nat) (u : Nat) : ∀ E : List (Nat × Nat), cnt E S u = 0 ↔ ∀ c, (u, c) ∈ E → c ∈ S
  | [] => by simp [cnt]
  | e :: E => by
    rw [cnt_cons]
    constructor
    · intro h c hc
      rcases List.mem_cons.1 hc with h1 | h1
      · by_cases h2 : c ∈ S
        · exact h2
        · rw [if_pos ⟨by rw [← h1], by rw [← h1]; exact h2⟩] at h; omega
      · exact (cnt_zero S u E).1 (by omega) c h1
    · intro h
      rw [(cnt_zero S u E).2 (fun c hc => h c (List.mem_cons_of_mem _ hc)), if_neg]
      rintro ⟨h1, h2⟩
      exact h2 (h e.2 (by rw [← h1]; exact List.mem_cons_self))
/-- Each in its turn: all that it uses stand ahead, and no lower one could stand there. -/
def Gd (n : Nat) (low : Nat → Nat) (E : List (Nat × Nat)) (S : List Nat) : Prop := ∀ A g B, S = A ++ g :: B → (∀ c, (g, c) ∈ E → c ∈ A) ∧ (∀ h, h < n → low h = h → h ∉ A → (∀ c, (h, c) ∈ E → c ∈ A) → g ≤ h)
theorem gd_snoc {n : Nat} {low : Nat → Nat} {E : List (Nat × Nat)} {S : List Nat} {s : Nat} (h : Gd n low E S) (h1 : ∀ c, (s, c) ∈ E → c ∈ S) (h2 : ∀ h, h < n → low h = h → h ∉ S → (∀ c, (h, c) ∈ E → c ∈ S) → s ≤ h) : Gd n low E (S ++ [s]) := by
  intro A g B e
  rcases List.eq_nil_or_concat B with rfl | ⟨B', b, rfl⟩
  · have := List.append_inj' e rfl
    obtain ⟨rfl, h3⟩ := this
    simp at h3; subst h3
    exact ⟨h1, h2⟩
  · have e2 : S ++ [s] = (A ++ g :: B') ++ [b] := by rw [e]; simp
    have := List.append_inj' e2 rfl
    exact h A g B' this.1
theorem gd_closed {n : Nat} {low : Nat → Nat} {E : List (Nat × Nat)} {S : List Nat} (h : Gd n low E S) {g : Nat} (hg : g ∈ S) {c : Nat} (hc : (g, c) ∈ E) : c ∈ S := by
  obtain ⟨A, B, e⟩ := List.append_of_mem hg
  have := (h A g B e).1 c hc
  rw [e]; exact List.mem_append_left _ this
/-- What is known of the edges. -/
structure EdOK (n : Nat) (low : Nat → Nat) (E : List (Nat × Nat)) : Prop where
  h : ∀ a c, (a, c) ∈ E → a < n ∧ low a = a ∧ c < n ∧ low c = c ∧ a ≠ c
theorem edL_mem {low : Nat → Nat} {adj : Nat → List Nat} {n a c : Nat} (h : (a, c) ∈ edL low adj n) : ∃ p q, p < n ∧ q ∈ adj p ∧ low p = a ∧ low q = c ∧ a ≠ c := by
  unfold edL edP at h
  obtain ⟨p, hp, h1⟩ := List.mem_flatMap.1 h
  obtain ⟨q, hq, h2⟩ := List.mem_filterMap.1 h1
  unfold ed1 at h2
  by_cases e : low p = low q
  · rw [if_pos e] at h2; cases h2
  · rw [if_neg e] at h2
    simp only [Option.some.injEq, Prod.mk.injEq] at h2
    exact ⟨p, q, List.mem_range.1 hp, hq, h2.1, h2.2, by rw [← h2.1, ← h2.2]; exact e⟩
theorem edL_has {low : Nat → Nat} {adj : Nat → List Nat} {n p q : Nat} (hp : p < n) (hq : q ∈ adj p) (h : low p ≠ low q) : (low p, low q) ∈ edL low adj n := by
  unfold edL edP
  refine List.mem_flatMap.2 ⟨p, List.mem_range.2 hp, List.mem_filterMap.2 ⟨q, hq, ?_⟩⟩
  unfold ed1; rw [if_neg h]
theorem edOK_of {n : Nat} {adj : Nat → List Nat} {low : Nat → Nat} {grp : Nat → List Nat} (hP : Parted n adj low grp) (hadj : ∀ x, x < n → ∀ y ∈ adj x, y < n) : EdOK n low (edL low adj n) := ⟨fun a c h => by
  obtain ⟨p, q, h1, h2, h3, h4, h5⟩ := edL_mem h
  have hq := hadj p h1 q h2
  have a1 := hP.lo p h1
  have a2 := hP.lo q hq
  rw [← h3, ← h4]
  exact ⟨by omega, a1.2.2, by omega, a2.2.2, by rw [h3, h4]; exact h5⟩⟩
/-- How the order stands between two turns. -/
structure KI (n : Nat) (low : Nat → Nat) (E : List (Nat × Nat)) (S H : List Nat) (wa : Nat → Nat) : Prop where
  nd : (S ++ H).Nodup
  hd : ∀ g ∈ S ++ H, g < n ∧ low g = g
  we : ∀ u, u < n → wa u = cnt E S u
  hp : ∀ g, g < n → low g = g → g ∉ S → (g ∈ H ↔ wa g = 0)
  gd : Gd n low E S
/-- .. and within one: s has been taken, j of its users are told. -/
structure KJ (n : Nat) (low : Nat → Nat) (E : List (Nat × Nat)) (S H : List Nat) (s j : Nat) (wa : Nat → Nat) : Prop where
  nd : ((S ++ [s]) ++ H).Nodup
  hd : ∀ g ∈ (S ++ [s]) ++ H, g < n ∧ low g = g
  we : ∀ u, u < n → wa u = cnt E (S ++ [s]) u + ((usF E s).drop j).count u
  hp : ∀ g, g < n → low g = g → g ∉ S ++ [s] → (g ∈ H ↔ wa g = 0)
  gd : Gd n low E (S ++ [s])
theorem KI.perm {n : Nat} {low : Nat → Nat} {E : List (Nat × Nat)} {S H H' : List Nat} {wa : Nat → Nat} (h : KI n low E S H wa) (hp : H'.Perm H) : KI n low E S H' wa :=
  ⟨(hp.append_left S).nodup_iff.2 h.nd, fun g hg => h.hd g ((hp.append_left S).mem_iff.1 hg), h.we, fun g h1 h2 h3 => (hp.mem_iff).trans (h.hp g h1 h2 h3), h.gd⟩
theorem KJ.perm {n : Nat} {low : Nat → Nat} {E : List (Nat × Nat)} {S H H' : List Nat} {s j : Nat} {wa : Nat → Nat} (h : KJ n low E S H s j wa) (hp : H'.Perm H) : KJ n low E S H' s j wa :=
  ⟨(hp.append_left _).nodup_iff.2 h.nd, fun g hg => h.hd g ((hp.append_left _).mem_iff.1 hg), h.we, fun g h1 h2 h3 => (hp.mem_iff).trans (h.hp g h1 h2 h3), h.gd⟩
theorem KI.take {n : Nat} {low : Nat → Nat} {E : List (Nat × Nat)} {S H : List Nat} {s : Nat} {wa : Nat → Nat} (h : KI n low E S (s :: H) wa) (hm : ∀ y ∈ H, s ≤ y) : KJ n low E S H s 0 wa := by
  have hS : S ++ s :: H = (S ++ [s]) ++ H := by simp
  have hsn := h.hd s (by simp)
  have hsS : s ∉ S := fun e => by
    have := (List.nodup_append.1 h.nd).2.2 s e s (by simp)
    exact this rfl
  have hws : wa s = 0 := (h.hp s hsn.1 hsn.2 hsS).1 (by simp)
  have hz := h.we s hsn.1
  rw [hws] at hz
  refine ⟨hS ▸ h.nd, fun g hg => h.hd g (hS ▸ hg), fun u hu => ?_, fun g h1 h2 h3 => ?_, gd_snoc h.gd ((cnt_zero S s E).1 hz.symm) (fun g h1 h2 h3 h4 => ?_)⟩
  · rw [h.we u hu, cnt_snoc S s u hsS E, List.drop_zero]
  · have h4 : g ∉ S := fun e => h3 (List.mem_append_left _ e)
    have h5 : g ≠ s := fun e => h3 (by simp [e])
    rw [← h.hp g h1 h2 h4]; simp [h5]
  · have hg0 : wa g = 0 := by rw [h.we g h1]; exact (cnt_zero S g E).2 h4
    have := (h.hp g h1 h2 h3).2 hg0
    rcases List.mem_cons.1 this with rfl | h6
    · exact Nat.le_refl _
    · exact hm g h6
theorem KJ.done {n : Nat} {low : Nat → Nat} {E : List (Nat × Nat)} {S H : List Nat} {s j : Nat} {wa : Nat → Nat} (h : KJ n low E S H s j wa) (hj : (usF E s).length ≤ j) : KI n low E (S ++ [s]) H wa :=
  ⟨h.nd, h.hd, fun u hu => by rw [h.we u hu, List.drop_eq_nil_of_le hj]; rfl, h.hp, h.gd⟩
theorem usF_mem {E : List (Nat × Nat)} {s u : Nat} (h : u ∈ usF E s) : (u, s) ∈ E := by
  unfold usF at h
  obtain ⟨e, h1, h2⟩ := List.mem_map.1 h
  obtain ⟨h3, h4⟩ := List.mem_filter.1 h1
  have : e.2 = s := by simpa using h4
  rw [← h2, ← this]; exact h3
/-- One user is told. -/
theorem KJ.step {n : Nat} {low : Nat → Nat} {E : List (Nat × Nat)} {S H : List Nat} {s j : Nat} {wa : Nat → Nat} (h : KJ n low E S H s j wa) (hE : EdOK n low E) (hj : j < (usF E s).length) :
    (usF E s)[j] < n ∧ 0 < wa (usF E s)[j] ∧ (wa (usF E s)[j] - 1 = 0 → KJ n low E S (H ++ [(usF E s)[j]]) s (j + 1) (upd wa (usF E s)[j] (wa (usF E s)[j] - 1))) ∧ (¬ wa (usF E s)[j] - 1 = 0 → KJ n low E S H s (j + 1) (upd wa (usF E s)[j] (wa (usF E s)[j] - 1))) := by
  have hm : (usF E s)[j] ∈ usF E s := List.getElem_mem hj
  have hdr : (usF E s).drop j = (usF E s)[j] :: (usF E s).drop (j + 1) := List.drop_eq_getElem_cons hj
  generalize hu : (usF E s)[j] = u at hm hdr ⊢
  have hue := usF_mem hm
  obtain ⟨e1, e2, e3, e4, e5⟩ := hE.h u s hue
  have hwu := h.we u e1
  rw [hdr, List.count_cons] at hwu
  simp only [beq_self_eq_true, if_true] at hwu
  have hwa : ∀ x, x < n → upd wa u (wa u - 1) x = cnt E (S ++ [s]) x + ((usF E s).drop (j + 1)).count x := by
    intro x hx
    unfold upd
    by_cases e : x = u
    · rw [if_pos e, e]; omega
    · rw [if_neg e, h.we x hx, hdr, List.count_cons]
      have : ¬ u = x := fun h => e h.symm
      simp [this]
  have huS : u ∉ S ++ [s] := by
    intro hc
    rcases List.mem_append.1 hc with h1 | h1
    · have hsS : s ∈ S := by
        have := h.gd
        obtain ⟨A, B, hS⟩ := List.append_of_mem h1
        have h2 := (this A u (B ++ [s]) (by rw [hS]; simp)).1 s hue
        rw [hS]; exact List.mem_append_left _ h2
      have hn := (List.nodup_append.1 (List.nodup_append.1 h.nd).1).2.2 s hsS s (by simp)
      exact hn rfl
    · simp at h1; exact e5 h1
  have huH : u ∉ H := fun hc => by
    have := (h.hp u e1 e2 huS).1 hc
    omega
  refine ⟨e1, by omega, fun hz => ⟨?_, ?_, hwa, ?_, h.gd⟩, fun hz => ⟨h.nd, h.hd, hwa, ?_, h.gd⟩⟩
  · rw [← List.append_assoc]
    refine List.nodup_append.2 ⟨h.nd, by simp, fun a ha b hb => ?_⟩
    simp at hb; subst hb
    intro e
    rcases List.mem_append.1 ha with h1 | h1
    · exact huS (e ▸ h1)
    · exact huH (e ▸ h1)
  · intro g hg
    rw [← List.append_assoc] at hg
    rcases List.mem_append.1 hg with h1 | h1
    · exact h.hd g h1
    · simp at h1; subst h1; exact ⟨e1, e2⟩
  · intro g h1 h2 h3
    unfold upd
    by_cases e : g = u
    · rw [if_pos e]; simp [e, hz]
    · rw [if_neg e, ← h.hp g h1 h2 h3]; simp [e]
  · intro g h1 h2 h3
    unfold upd
    by_cases e : g = u
    · rw [if_pos e, e]; simp [huH, hz]
    · rw [if_neg e]; exact h.hp g h1 h2 h3
/-- All groups, each in its turn. -/
structure Ordered (n : Nat) (adj : Nat → List Nat) (low : Nat → Nat) (S : List Nat) : Prop where
  nd : S.Nodup
  all : ∀ g, g ∈ S ↔ (g < n ∧ low g = g)
  gd : Gd n low (edL low adj n) S
theorem filter_lt (P Q : Nat → Bool) : ∀ (l : List Nat), (∀ x ∈ l, P x = true → Q x = true) → (∃ x ∈ l, P x = false ∧ Q x = true) → (l.filter P).length < (l.filter Q).length
  | [], _, ⟨x, h, _⟩ => by simp at h
  | a :: l, h, ⟨x, hx, hx1, hx2⟩ => by
    have hle : ∀ (m : List Nat), (∀ x ∈ m, P x = true → Q x = true) → (m.filter P).length ≤ (m.filter Q).length := by
      intro m
      induction m with
      | nil => intro _; simp
      | cons b m ih =>
        intro hm
        have h1 := ih (fun x hx => hm x (List.mem_cons_of_mem _ hx))
        by_cases hb : P b = true
        · rw [List.filter_cons_of_pos hb, List.filter_cons_of_pos (hm b List.mem_cons_self hb)]; simp; exact h1
        · rw [List.filter_cons_of_neg hb]
          by_cases hq : Q b = true
          · rw [List.filter_cons_of_pos hq]; simp; omega
          · rw [List.filter_cons_of_neg hq]; exact h1
    rcases List.mem_cons.1 hx with rfl | hx'
    · rw [List.filter_cons_of_neg (by simp [hx1]), List.filter_cons_of_pos hx2]
      have := hle l (fun x hx => h x (List.mem_cons_of_mem _ hx))
      simp; omega
    · have ih := filter_lt P Q l (fun x hx => h x (List.mem_cons_of_mem _ hx)) ⟨x, hx', hx1, hx2⟩
      by_cases ha : P a = true
      · rw [List.filter_cons_of_pos ha, List.filter_cons_of_pos (h a List.mem_cons_self ha)]; simp; exact ih
      · rw [List.filter_cons_of_neg ha]
        by_cases hq : Q a = true
        · rw [List.filter_cons_of_pos hq]; simp; omega
        · rw [List.filter_cons_of_neg hq]; exact ih
open Classical in
theorem KI.all {n : Nat} {adj : Nat → List Nat} {low : Nat → Nat} {grp : Nat → List Nat} {S : List Nat} {wa : Nat → Nat} (h : KI n low (edL low adj n) S [] wa) (hP : Parted n adj low grp) (hadj : ∀ x, x < n → ∀ y ∈ adj x, y < n) : Ordered n adj low S := by
  have hE := edOK_of hP hadj
  have key : ∀ m g, g < n → low g = g → g ∉ S → ((List.range n).filter (fun z => decide (Rch adj g z))).length ≤ m → False := by
    intro m
    induction m with
    | zero =>
      intro g h1 h2 h3 h4
      have : g ∈ (List.range n).filter (fun z => decide (Rch adj g z)) := List.mem_filter.2 ⟨List.mem_range.2 h1, by simp [Rch.refl]⟩
      have := List.length_pos_of_mem this
      omega
    | succ m ih =>
      intro g h1 h2 h3 h4
      have hw : ¬ wa g = 0 := fun e => by have := (h.hp g h1 h2 h3).2 e; simp at this
      rw [h.we g h1, cnt_zero] at hw
      have : ∃ c, (g, c) ∈ edL low adj n ∧ c ∉ S := Classical.byContradiction fun hc => hw (fun c hcE => Classical.byContradiction fun hcS => hc ⟨c, hcE, hcS⟩)
      obtain ⟨c, hc, hcS⟩ := this
      obtain ⟨e1, e2, e3, e4, e5⟩ := hE.h g c hc
      obtain ⟨p, q, q1, q2, q3, q4, q5⟩ := edL_mem hc
      have hqn := hadj p q1 q q2
      have s1 := (hP.lo p q1).1
      have s2 := (hP.lo q hqn).1
      rw [q3] at s1
      rw [q4] at s2
      have hgc : Rch adj g c := s1.2.trans ((Rch.edge q2).trans s2.1)
      have hcg : ¬ Rch adj c g := fun hh => by
        have := hP.ls g c h1 e3 ⟨hgc, hh⟩
        rw [e4, h2] at this
        exact e5 this.symm
      refine ih c e3 e4 hcS ?_
      have := filter_lt (fun z => decide (Rch adj c z)) (fun z => decide (Rch adj g z)) (List.range n) (fun x _ hx => by simp at hx ⊢; exact hgc.trans hx) ⟨g, List.mem_range.2 h1, by simpa using hcg, by simp [Rch.refl]⟩
      omega
  refine ⟨by simpa using h.nd, fun g => ⟨fun hg => h.hd g (List.mem_append_left _ hg), fun ⟨h1, h2⟩ => ?_⟩, h.gd⟩
  exact Classical.byContradiction fun hc => key _ g h1 h2 hc (Nat.le_refl _)
end Go.Proofs.Ytkkpkcigflikkaa.G
