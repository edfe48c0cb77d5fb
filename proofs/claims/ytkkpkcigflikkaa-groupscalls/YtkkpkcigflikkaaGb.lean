/-
  Mathematics of groups: a group is made; what the search leaves.
-/
import Derived.Test.YtkkpkcigflikkaaGa
namespace Go.Proofs.Ytkkpkcigflikkaa.G
set_option linter.unusedVariables false
section
variable {n : Nat} {adj : Nat → List Nat} {met : Nat → Nat} {low : Nat → Option Nat} {grp : Nat → List Nat} {way : List V} {opn : List Nat} {now : Nat}

theorem Inv.in_iff {os xs : List Nat} {p : Nat} (h : Inv n adj met low grp way (os ++ p :: xs) now) : (∀ x ∈ os, met x < met p) ∧ (∀ x ∈ xs, met p < met x) := by
  have := h.op
  rw [List.pairwise_append, List.pairwise_cons] at this
  exact ⟨fun x hx => this.2.2 x hx p (by simp), this.2.1.1⟩
/-- All that was met since a visit leads to it, where it led back to no earlier one. -/
theorem Inv.close {ws : List V} {v : V} {os xs : List Nat} (h : Inv n adj met low grp (ws ++ [v]) (os ++ v.p :: xs) now) (hk : v.k = (adj v.p).length) (hb : v.b = met v.p) :
    (∀ x ∈ v.p :: xs, ∀ y ∈ adj x, y ∈ v.p :: xs ∨ low y ≠ none) ∧ (∀ x ∈ v.p :: xs, Scc adj x v.p) := by
  obtain ⟨ho, hx⟩ := h.in_iff
  have hwp := h.wp
  rw [List.pairwise_append] at hwp
  have hwl : ∀ d ∈ ws, met d.p < met v.p := fun d hd => hwp.2.2 d hd v (by simp)
  have hge : ∀ x ∈ v.p :: xs, met v.p ≤ met x := fun x hx2 => by
    rcases List.mem_cons.1 hx2 with rfl | h2
    · exact Nat.le_refl _
    · exact Nat.le_of_lt (hx x h2)
  have hin : ∀ x ∈ v.p :: xs, x ∈ os ++ v.p :: xs := fun x hx2 => List.mem_append_right _ hx2
  have hup : ∀ x ∈ os ++ v.p :: xs, met v.p ≤ met x → x ∈ v.p :: xs := fun x hx2 hl => by
    rcases List.mem_append.1 hx2 with h2 | h2
    · have := ho x h2; omega
    · exact h2
  have hv : v ∈ ws ++ [v] := by simp
  have hdn : ∀ x ∈ v.p :: xs, ∀ y ∈ adj x, Dn adj (ws ++ [v]) x y := fun x hx2 y hy => ⟨hy, fun d hd hdp => by
    rcases List.mem_append.1 hd with hd | hd
    · have := hwl d hd; have := hge x hx2; rw [hdp] at *; omega
    · simp at hd; subst hd; subst hdp; rw [hk, List.take_length]; exact hy⟩
  have h1 : ∀ x ∈ v.p :: xs, ∀ y ∈ adj x, y ∈ v.p :: xs ∨ low y ≠ none := by
    intro x hx2 y hy
    have hd := hdn x hx2 y hy
    have hm := h.dm x (h.opn_met (hin x hx2)) y hd
    by_cases e : low y = none
    · have hyo : y ∈ os ++ v.p :: xs := (h.oi y).2 ⟨hm, e⟩
      obtain ⟨d, g1, g2, g3⟩ := h.db x (hin x hx2) y hyo hd v hv (hge x hx2)
      rcases List.mem_append.1 g1 with g1 | g1
      · have := hwl d g1; omega
      · simp at g1; subst g1
        exact .inl (hup y hyo (by omega))
    · exact .inr e
  refine ⟨h1, ?_⟩
  -- by how early a place was met
  have main : ∀ m x, met x = m → x ∈ v.p :: xs → Rch adj x v.p := by
    intro m
    induction m using Nat.strongRecOn with
    | _ m ih =>
      intro x hm hx2
      by_cases e : x = v.p
      · rw [e]; exact .refl _
      · obtain ⟨y, g1, g2, g3⟩ := h.nb x (hin x hx2) (fun d hd hdp => by
          rcases List.mem_append.1 hd with hd | hd
          · have := hwl d hd; have := hge x hx2; rw [hdp] at *; omega
          · simp at hd; subst hd; exact e hdp.symm)
        have hcl := Rch.closed (fun z => z ∈ v.p :: xs ∨ low z ≠ none) (fun z hz t ht => by
          rcases hz with hz | hz
          · exact h1 z hz t ht
          · exact .inr (h.ac z hz t ht)) g3 (.inl hx2)
        rcases hcl with hc | hc
        · exact g3.trans (ih (met y) (by omega) y rfl hc)
        · exact absurd ((h.oi y).1 g1).2 hc
  exact fun x hx2 => ⟨main _ x rfl hx2, h.wr v hv x (hin x hx2) (hge x hx2)⟩

/-- A group is made of all that was met since. -/
theorem Inv.group {ws : List V} {v : V} {os xs : List Nat} (h : Inv n adj met low grp (ws ++ [v]) (os ++ v.p :: xs) now) (hk : v.k = (adj v.p).length) (hb : v.b = met v.p)
    {L : List Nat} {m : Nat} (hL : (m :: L).Pairwise (· < ·)) (hLm : ∀ x, x ∈ m :: L ↔ x ∈ v.p :: xs) :
    Inv n adj met (fun x => if x ∈ m :: L then some m else low x) (upd grp m (m :: L)) ws os now := by
  obtain ⟨hc1, hc2⟩ := h.close hk hb
  obtain ⟨ho, hx⟩ := h.in_iff
  have hwp := h.wp
  rw [List.pairwise_append] at hwp
  have hwl : ∀ d ∈ ws, met d.p < met v.p := fun d hd => hwp.2.2 d hd v (by simp)
  have hge : ∀ x ∈ v.p :: xs, met v.p ≤ met x := fun x hx2 => by
    rcases List.mem_cons.1 hx2 with rfl | h2
    · exact Nat.le_refl _
    · exact Nat.le_of_lt (hx x h2)
  have hin : ∀ x ∈ v.p :: xs, x ∈ os ++ v.p :: xs := fun x hx2 => List.mem_append_right _ hx2
  have hino : ∀ x ∈ os, x ∈ os ++ v.p :: xs := fun x hx2 => List.mem_append_left _ hx2
  have hinw : ∀ d ∈ ws, d ∈ ws ++ [v] := fun x hx2 => List.mem_append_left _ hx2
  have hoG : ∀ x ∈ os, x ∉ m :: L := fun x hx2 h2 => by have := ho x hx2; have := hge x ((hLm x).1 h2); omega
  have hmL : m ∈ m :: L := by simp
  have hmin : ∀ x ∈ m :: L, m ≤ x := fun x hx2 => by
    rcases List.mem_cons.1 hx2 with rfl | h2
    · exact Nat.le_refl _
    · exact Nat.le_of_lt ((List.pairwise_cons.1 hL).1 x h2)
  have hnone : ∀ x ∈ m :: L, low x = none ∧ 0 < met x := fun x hx2 => by
    have := (h.oi x).1 (hin x ((hLm x).1 hx2)); exact ⟨this.2, this.1⟩
  have hscc : ∀ x ∈ m :: L, ∀ y ∈ m :: L, Scc adj x y := fun x h1 y h2 => (hc2 x ((hLm x).1 h1)).trans (hc2 y ((hLm y).1 h2)).symm
  have hclo : ∀ x, x ∈ m :: L ∨ low x ≠ none → ∀ y ∈ adj x, y ∈ m :: L ∨ low y ≠ none := fun x hx2 y hy => by
    rcases hx2 with h2 | h2
    · rcases hc1 x ((hLm x).1 h2) y hy with h3 | h3
      · exact .inl ((hLm y).2 h3)
      · exact .inr h3
    · exact .inr (h.ac x h2 y hy)
  have hall : ∀ x y, x ∈ m :: L → Scc adj x y → y ∈ m :: L := by
    intro x y hx2 hs
    rcases Rch.closed (fun z => z ∈ m :: L ∨ low z ≠ none) hclo hs.1 (.inl hx2) with h2 | h2
    · exact h2
    · exact absurd ((h.ls y x h2 hs.symm).symm.trans (hnone x hx2).1) h2
  have hif : ∀ x, x ∈ m :: L → (if x ∈ m :: L then some m else low x) = some m := fun x hx2 => if_pos hx2
  have hel : ∀ x, x ∉ m :: L → (if x ∈ m :: L then some m else low x) = low x := fun x hx2 => if_neg hx2
  have hns : ∀ x, (if x ∈ m :: L then some m else low x) ≠ none ↔ (x ∈ m :: L ∨ low x ≠ none) := fun x => by
    by_cases e : x ∈ m :: L
    · rw [hif x e]; simp [e]
    · rw [hel x e]; simp [e]
  have hdn : ∀ x ∈ os, ∀ y, Dn adj ws x y → Dn adj (ws ++ [v]) x y := fun x hx2 y ⟨h1, h2⟩ => ⟨h1, fun d hd hdp => by
    rcases List.mem_append.1 hd with hd | hd
    · exact h2 d hd hdp
    · simp at hd; subst hd; have := ho x hx2; rw [hdp] at this; omega⟩
  refine ⟨h.ms, h.mn, h.ml, ?_, ?_, ?_, hwp.1, ?_, ?_, ?_, ?_, ?_, ?_, ?_, ?_, ?_, ?_, ?_⟩
  · intro x
    constructor
    · intro hx2
      have := (h.oi x).1 (hino x hx2)
      exact ⟨this.1, by rw [hel x (hoG x hx2)]; exact this.2⟩
    · rintro ⟨h1, h2⟩
      by_cases e : x ∈ m :: L
      · rw [hif x e] at h2; cases h2
      · rw [hel x e] at h2
        rcases List.mem_append.1 ((h.oi x).2 ⟨h1, h2⟩) with h3 | h3
        · exact h3
        · exact absurd ((hLm x).2 h3) e
  · exact (List.pairwise_append.1 h.op).1
  · intro d hd
    rcases List.mem_append.1 (h.wo d (hinw d hd)) with h1 | h1
    · exact h1
    · have := hge _ h1; have := hwl d hd; omega
  · intro x hx2
    obtain ⟨d, h1, h2⟩ := h.wh x (hino x hx2)
    rcases List.mem_append.1 h1 with h1 | h1
    · exact ⟨d, h1, h2⟩
    · simp at h1; subst h1; have := ho x hx2; omega
  · exact fun d hd x hx2 => h.wr d (hinw d hd) x (hino x hx2)
  · intro d hd
    obtain ⟨h1, h2, y, h3, h4, h5⟩ := h.wb d (hinw d hd)
    refine ⟨h1, h2, y, ?_, h4, h5⟩
    rcases List.mem_append.1 h3 with h3 | h3
    · exact h3
    · have := hge y h3; have := hwl d hd; omega
  · intro x hx2 y hy
    rw [hns] at hx2 ⊢
    exact hclo x hx2 y hy
  · intro x hx2 y hd
    by_cases e : x ∈ os
    · exact h.dm x hx2 y (hdn x e y hd)
    · have hl : x ∈ m :: L ∨ low x ≠ none := by
        by_cases e2 : low x = none
        · rcases List.mem_append.1 ((h.oi x).2 ⟨hx2, e2⟩) with h3 | h3
          · exact absurd h3 e
          · exact .inl ((hLm x).2 h3)
        · exact .inr e2
      rcases hclo x hl y hd.1 with h3 | h3
      · exact (hnone y h3).2
      · cases e3 : low y with
        | none => exact absurd e3 h3
        | some g => exact (h.lo y g e3).2.2.2
  · intro x hx2 y hy hd d hdd hl
    obtain ⟨d1, h1, h2, h3⟩ := h.db x (hino x hx2) y (hino y hy) (hdn x hx2 y hd) d (hinw d hdd) hl
    rcases List.mem_append.1 h1 with h1 | h1
    · exact ⟨d1, h1, h2, h3⟩
    · simp at h1; subst h1; have := ho y hy; omega
  · intro x hx2 hne
    obtain ⟨y, h1, h2, h3⟩ := h.nb x (hino x hx2) (fun d hd hdp => by
      rcases List.mem_append.1 hd with hd | hd
      · exact hne d hd hdp
      · simp at hd; subst hd; have := ho x hx2; rw [hdp] at this; omega)
    refine ⟨y, ?_, h2, h3⟩
    rcases List.mem_append.1 h1 with h1 | h1
    · exact h1
    · have := hge y h1; have := ho x hx2; omega
  · intro x g hg
    by_cases e : x ∈ m :: L
    · rw [hif x e] at hg; cases hg
      exact ⟨hscc x e m hmL, hmin x e, hif m hmL, (hnone x e).2⟩
    · rw [hel x e] at hg
      obtain ⟨h1, h2, h3, h4⟩ := h.lo x g hg
      refine ⟨h1, h2, ?_, h4⟩
      rw [hel g (fun c => by rw [(hnone g c).1] at h3; cases h3)]; exact h3
  · intro x y hx2 hs
    rw [hns] at hx2
    rcases hx2 with h2 | h2
    · rw [hif x h2, hif y (hall x y h2 hs)]
    · have hx3 : x ∉ m :: L := fun c => h2 (hnone x c).1
      have hy3 : y ∉ m :: L := fun c => hx3 (hall y x c hs.symm)
      rw [hel x hx3, hel y hy3]
      exact h.ls x y h2 hs
  · intro g hg
    by_cases e : g ∈ m :: L
    · rw [hif g e] at hg; cases hg
      rw [upd_at]
      refine ⟨hL, fun x => ⟨hif x, fun h1 => ?_⟩⟩
      by_cases e2 : x ∈ m :: L
      · exact e2
      · rw [hel x e2] at h1
        have := (h.lo x m h1).2.2.1
        rw [(hnone m hmL).1] at this; cases this
    · rw [hel g e] at hg
      have hgm : g ≠ m := fun c => e (c ▸ hmL)
      rw [upd_ne _ _ hgm]
      obtain ⟨h1, h2⟩ := h.gr g hg
      refine ⟨h1, fun x => (h2 x).trans ⟨fun h3 => ?_, fun h3 => ?_⟩⟩
      · rw [hel x (fun c => by rw [(hnone x c).1] at h3; cases h3)]; exact h3
      · by_cases e2 : x ∈ m :: L
        · rw [hif x e2] at h3; cases h3; exact absurd rfl hgm
        · rw [hel x e2] at h3; exact h3
  · intro g hg
    by_cases e : g = m
    · exact absurd (by rw [e]; exact hif m hmL) hg
    · rw [upd_ne _ _ e]
      by_cases e2 : g ∈ m :: L
      · refine h.ge g (fun c => ?_)
        rw [(hnone g e2).1] at c; cases c
      · rw [hel g e2] at hg; exact h.ge g hg

/-- The visit that led back to an earlier one is not the first of the way. -/
theorem Inv.second {ws : List V} {v : V} (h : Inv n adj met low grp (ws ++ [v]) opn now) (hb : v.b < met v.p) : ws ≠ [] := by
  intro e; subst e
  obtain ⟨_, _, y, h1, h2, _⟩ := h.wb v (by simp)
  obtain ⟨d, h3, h4⟩ := h.wh y h1
  simp at h3; subst h3; omega
theorem nodup_lt : ∀ (n : Nat) (l : List Nat), l.Nodup → (∀ x ∈ l, x < n) → l.length ≤ n
  | 0, l, _, h => by
    cases l with
    | nil => exact Nat.le_refl _
    | cons a l => exact absurd (h a (by simp)) (Nat.not_lt_zero _)
  | n + 1, l, hn, h => by
    have h1 := nodup_lt n (l.erase n) (hn.erase n) (fun x hx => by
      have h2 := h x (List.mem_of_mem_erase hx)
      have h3 : x ≠ n := fun e => by subst e; exact (List.Nodup.not_mem_erase hn) hx
      omega)
    have h2 := List.length_erase (l := l) (a := n)
    split at h2 <;> omega
/-- There is room for one more. -/
theorem Inv.room (h : Inv n adj met low grp way opn now) {q : Nat} (hq : met q = 0) (hn : q < n) : now < n := by
  obtain ⟨seen, s1, s2, s3⟩ := h.ms
  have := nodup_lt n (q :: seen) (List.nodup_cons.2 ⟨fun e => by have := (s3 q).1 e; omega, s1⟩) (fun x hx => by
    rcases List.mem_cons.1 hx with rfl | hx
    · exact hn
    · exact h.mn x ((s3 x).1 hx))
  simp at this; omega
theorem Inv.now_le (h : Inv n adj met low grp way opn now) : now ≤ n := by
  obtain ⟨seen, s1, s2, s3⟩ := h.ms
  have := nodup_lt n seen s1 (fun x hx => h.mn x ((s3 x).1 hx))
  omega
theorem Inv.opn_le (h : Inv n adj met low grp way opn now) : opn.length ≤ n :=
  nodup_lt n opn (h.op.imp (fun {a b} hab e => by subst e; omega)) (fun x hx => h.mn x (h.opn_met hx))
theorem Inv.way_le (h : Inv n adj met low grp way opn now) : way.length ≤ n := by
  have := nodup_lt n (way.map V.p) (by
    rw [List.nodup_iff_pairwise_ne, List.pairwise_map]
    exact h.wp.imp (fun {a b} hab e => by rw [e] at hab; omega)) (fun x hx => by
    obtain ⟨e, h1, h2⟩ := List.mem_map.1 hx
    subst h2; exact h.mn _ (h.opn_met (h.wo e h1)))
  simpa using this
end

/-- Places parted into groups. -/
structure Parted (n : Nat) (adj : Nat → List Nat) (low : Nat → Nat) (grp : Nat → List Nat) : Prop where
  lo : ∀ x, x < n → Scc adj x (low x) ∧ low x ≤ x ∧ low (low x) = low x
  ls : ∀ x y, x < n → y < n → Scc adj x y → low y = low x
  gr : ∀ g, g < n → low g = g → (grp g).Pairwise (· < ·) ∧ ∀ x, x ∈ grp g ↔ (x < n ∧ low x = g)
  ge : ∀ g, g < n → low g ≠ g → grp g = []
theorem Inv.done {n : Nat} {adj : Nat → List Nat} {met : Nat → Nat} {low : Nat → Option Nat} {grp : Nat → List Nat} {opn : List Nat} {now : Nat} (h : Inv n adj met low grp [] opn now) (hm : ∀ x, x < n → 0 < met x) :
    (∀ x, x < n → low x ≠ none) ∧ Parted n adj (fun x => (low x).getD 0) grp := by
  have ho : opn = [] := by
    cases opn with
    | nil => rfl
    | cons a l => obtain ⟨e, h1, _⟩ := h.wh a (by simp); simp at h1
  have ha : ∀ x, x < n → ∃ g, low x = some g := fun x hx => by
    cases e : low x with
    | none => have := (h.oi x).2 ⟨hm x hx, e⟩; rw [ho] at this; simp at this
    | some g => exact ⟨g, rfl⟩
  refine ⟨fun x hx e => (by obtain ⟨g, hg⟩ := ha x hx; rw [hg] at e; cases e), ?_, ?_, ?_, ?_⟩
  · intro x hx
    obtain ⟨g, hg⟩ := ha x hx
    obtain ⟨h1, h2, h3, _⟩ := h.lo x g hg
    simp only [hg, h3, Option.getD_some]
    exact ⟨h1, h2, trivial⟩
  · intro x y hx hy hs
    obtain ⟨g, hg⟩ := ha x hx
    show (low y).getD 0 = (low x).getD 0
    rw [h.ls x y (by rw [hg]; simp) hs]
  · intro g hg he
    obtain ⟨g', hg'⟩ := ha g hg
    simp only [hg', Option.getD_some] at he
    subst he
    obtain ⟨h1, h2⟩ := h.gr _ hg'
    refine ⟨h1, fun x => (h2 x).trans ⟨fun h3 => ⟨h.mn x (h.lo x _ h3).2.2.2, by simp only [h3, Option.getD_some]⟩, fun ⟨h3, h4⟩ => ?_⟩⟩
    obtain ⟨g2, hg2⟩ := ha x h3
    simp only [hg2, Option.getD_some] at h4
    rw [hg2, h4]
  · intro g hg he
    refine h.ge g (fun c => he ?_)
    simp only [c, Option.getD_some]
end Go.Proofs.Ytkkpkcigflikkaa.G
