/-
  Mathematics of groups: where each stands; what leads where within a group.
-/
import Derived.Test.YtkkpkcigflikkaaNa
namespace Go.Proofs.Ytkkpkcigflikkaa.G
set_option linter.unusedVariables false
section
variable {n : Nat} {adj : Nat → List Nat} {low : Nat → Nat} {grp : Nat → List Nat} {S : List Nat}

/-- In which group one stands. -/
def pos (low : Nat → Nat) (S : List Nat) (x : Nat) : Nat := S.idxOf (low x)
theorem low_lt (hP : Parted n adj low grp) {x : Nat} (hx : x < n) : low x < n := by have := (hP.lo x hx).2.1; omega
theorem low_in (hP : Parted n adj low grp) (hO : Ordered n adj low S) {x : Nat} (hx : x < n) : low x ∈ S := (hO.all _).2 ⟨low_lt hP hx, (hP.lo x hx).2.2⟩
theorem pos_lt (hP : Parted n adj low grp) (hO : Ordered n adj low S) {x : Nat} (hx : x < n) : pos low S x < S.length := List.idxOf_lt_length_iff.2 (low_in hP hO hx)
theorem pos_at (hP : Parted n adj low grp) (hO : Ordered n adj low S) {x : Nat} (hx : x < n) : S[pos low S x]'(pos_lt hP hO hx) = low x := List.getElem_idxOf _
theorem pos_mem (hP : Parted n adj low grp) (hO : Ordered n adj low S) {x : Nat} (hx : x < n) : x ∈ grp (low x) := ((hP.gr _ (low_lt hP hx) (hP.lo x hx).2.2).2 x).2 ⟨hx, rfl⟩
theorem mem_grp (hP : Parted n adj low grp) (hO : Ordered n adj low S) {g : Nat} (hg : g ∈ S) {x : Nat} : x ∈ grp g ↔ (x < n ∧ low x = g) := (hP.gr g ((hO.all g).1 hg).1 ((hO.all g).1 hg).2).2 x
theorem pos_before (hP : Parted n adj low grp) (hO : Ordered n adj low S) {x : Nat} (hx : x < n) {j : Nat} (hj : j < pos low S x) (hjS : j < S.length) : x ∉ grp S[j] := fun h => by
  have h1 := ((mem_grp hP hO (List.getElem_mem hjS)).1 h).2
  have h2 := pos_at hP hO hx
  have h3 := (List.getElem_inj (h₀ := hjS) (h₁ := pos_lt hP hO hx) hO.nd).1 (by rw [h2, h1])
  omega
theorem pos_le (hP : Parted n adj low grp) (hO : Ordered n adj low S) {x y : Nat} (hx : x < n) (hy : y < n) (h : y ∈ adj x) : pos low S y ≤ pos low S x := by
  by_cases e : low x = low y
  · unfold pos; rw [e]; exact Nat.le_refl _
  · have h1 : (low x, low y) ∈ edL low adj n := by
      unfold edL edP
      refine List.mem_flatMap.2 ⟨x, List.mem_range.2 hx, List.mem_filterMap.2 ⟨y, h, ?_⟩⟩
      unfold ed1; rw [if_neg e]
    have hp := pos_lt hP hO hx
    have h2 : S = S.take (pos low S x) ++ low x :: S.drop (pos low S x + 1) := by
      conv => lhs; rw [← List.take_append_drop (pos low S x) S, List.drop_eq_getElem_cons hp, pos_at hP hO hx]
    have h3 := (hO.gd _ _ _ h2).1 (low y) h1
    obtain ⟨j, hj, hj2⟩ := List.mem_iff_getElem.1 h3
    rw [List.length_take] at hj
    rw [List.getElem_take] at hj2
    have h4 := pos_at hP hO hy
    have h5 := (List.getElem_inj (h₀ := (by omega : j < S.length)) (h₁ := pos_lt hP hO hy) hO.nd).1 (by rw [h4, hj2])
    omega
theorem all_len (hP : Parted n adj low grp) (hO : Ordered n adj low S) : (S.map (fun g => (grp g).length)).sum = n := by
  have h1 : ((S.map grp).flatten).Nodup := by
    refine List.pairwise_flatten.2 ⟨fun l hl => ?_, ?_⟩
    · obtain ⟨g, hg, rfl⟩ := List.mem_map.1 hl
      exact (hP.gr g ((hO.all g).1 hg).1 ((hO.all g).1 hg).2).1.imp (fun h => Nat.ne_of_lt h)
    · rw [List.pairwise_map]
      refine hO.nd.imp_of_mem (fun {a b} ha hb hab x hx y hy e => ?_)
      subst e
      exact hab (((mem_grp hP hO ha).1 hx).2.symm.trans ((mem_grp hP hO hb).1 hy).2)
  have h2 : ((S.map grp).flatten).Perm (List.range n) := (List.perm_ext_iff_of_nodup h1 List.nodup_range).2 (fun x => by
    rw [List.mem_flatten, List.mem_range]
    constructor
    · rintro ⟨l, hl, hx⟩
      obtain ⟨g, hg, rfl⟩ := List.mem_map.1 hl
      exact ((mem_grp hP hO hg).1 hx).1
    · intro hx
      exact ⟨_, List.mem_map.2 ⟨_, low_in hP hO hx, rfl⟩, pos_mem hP hO hx⟩)
  have h3 := h2.length_eq
  rw [List.length_flatten, List.length_range, List.map_map] at h3
  exact h3
/-- What is closed within a group is all of it. -/
theorem whole_fwd (hP : Parted n adj low grp) (hO : Ordered n adj low S) (hadj : ∀ x, x < n → ∀ y ∈ adj x, y < n) {g : Nat} (hg : g ∈ S) {out : List Nat} {a : Nat} (ha : a ∈ grp g) (h1 : a ∈ out) (h2 : ∀ x ∈ out, x ∈ grp g) (h3 : ∀ x ∈ out, ∀ y ∈ grp g, y ∈ adj x → y ∈ out) : ∀ b ∈ grp g, b ∈ out := by
  intro b hb
  have key : ∀ k x, x ∈ out → R adj k x b → b ∈ out := by
    intro k
    induction k with
    | zero => intro x hx h; cases h; exact hx
    | succ k ih =>
      rintro x hx ⟨c, hc, hr⟩
      refine ih c ?_ hr
      have hxg := (mem_grp hP hO hg).1 (h2 x hx)
      have hbg := (mem_grp hP hO hg).1 hb
      have hcn := hadj x hxg.1 c hc
      have s1 := (hP.lo x hxg.1).1
      have s2 := (hP.lo b hbg.1).1
      rw [hxg.2] at s1
      rw [hbg.2] at s2
      have s3 : Scc adj x c := ⟨.edge hc, (show Rch adj c b from ⟨k, hr⟩).trans (s2.1.trans s1.2)⟩
      have := hP.ls x c hxg.1 hcn s3
      exact h3 x hx c ((mem_grp hP hO hg).2 ⟨hcn, by rw [this]; exact hxg.2⟩) hc
  have hag := (mem_grp hP hO hg).1 ha
  have hbg := (mem_grp hP hO hg).1 hb
  have s1 := (hP.lo a hag.1).1
  have s2 := (hP.lo b hbg.1).1
  rw [hag.2] at s1
  rw [hbg.2] at s2
  obtain ⟨k, hk⟩ := (s1.trans s2.symm).1
  exact key k a h1 hk
theorem whole_back (hP : Parted n adj low grp) (hO : Ordered n adj low S) (hadj : ∀ x, x < n → ∀ y ∈ adj x, y < n) {g : Nat} (hg : g ∈ S) {out : List Nat} {a : Nat} (ha : a ∈ grp g) (h1 : a ∈ out) (h2 : ∀ x ∈ out, x ∈ grp g) (h3 : ∀ x ∈ out, ∀ y ∈ grp g, x ∈ adj y → y ∈ out) : ∀ b ∈ grp g, b ∈ out := by
  have hag := (mem_grp hP hO hg).1 ha
  have s1 := (hP.lo a hag.1).1
  rw [hag.2] at s1
  have key : ∀ k b, b ∈ grp g → R adj k b a → b ∈ out := by
    intro k
    induction k with
    | zero => intro x hx h; cases h; exact h1
    | succ k ih =>
      rintro b hb ⟨c, hc, hr⟩
      have hbg := (mem_grp hP hO hg).1 hb
      have hcn := hadj b hbg.1 c hc
      have s2 := (hP.lo b hbg.1).1
      rw [hbg.2] at s2
      have s3 : Scc adj b c := ⟨.edge hc, (show Rch adj c a from ⟨k, hr⟩).trans (s1.1.trans s2.2)⟩
      have := hP.ls b c hbg.1 hcn s3
      have hcg := (mem_grp hP hO hg).2 ⟨hcn, by rw [this]; exact hbg.2⟩
      exact h3 c (ih c hcg hr) b hb hc
  intro b hb
  have hbg := (mem_grp hP hO hg).1 hb
  have s2 := (hP.lo b hbg.1).1
  rw [hbg.2] at s2
  obtain ⟨k, hk⟩ := (s2.trans s1.symm).1
  exact key k b hb hk
theorem same_len {l l' : List Nat} (h1 : l.Nodup) (h2 : l'.Nodup) (h3 : ∀ x ∈ l, x ∈ l') (h4 : ∀ x ∈ l', x ∈ l) : l.length = l'.length := ((List.perm_ext_iff_of_nodup h1 h2).2 (fun x => ⟨h3 x, h4 x⟩)).length_eq
theorem le_len : ∀ (l l' : List Nat), l.Nodup → (∀ x ∈ l, x ∈ l') → l.length ≤ l'.length
  | [], _, _, _ => Nat.zero_le _
  | a :: l, l', h1, h2 => by
    have ha := h2 a List.mem_cons_self
    have h3 := List.nodup_cons.1 h1
    have h4 := le_len l (l'.erase a) h3.2 (fun x hx => (List.mem_erase_of_ne (by intro e; subst e; exact h3.1 hx)).2 (h2 x (List.mem_cons_of_mem _ hx)))
    rw [List.length_erase_of_mem ha] at h4
    have := List.length_pos_of_mem ha
    simp only [List.length_cons]
    omega
end
end Go.Proofs.Ytkkpkcigflikkaa.G
namespace Go.Proofs.Ytkkpkcigflikkaa
open G
theorem mem_adjF {ns : List (List UInt8)} {us : List (List (List UInt8))} (hn : ns.Nodup) {a b : Nat} (ha : a < us.length) (hb : b < ns.length) : b ∈ adjF ns us a ↔ ns[b] ∈ us[a] := by
  unfold adjF
  rw [List.getD_eq_getElem?_getD, List.getElem?_eq_getElem ha, List.mem_filterMap]
  constructor
  · rintro ⟨z, hz, h⟩
    unfold ixO at h
    split at h
    · rename_i hx
      cases h
      rw [List.getElem_idxOf]
      exact hz
    · cases h
  · intro h
    refine ⟨ns[b], h, ?_⟩
    unfold ixO
    rw [if_pos (List.getElem_mem hb)]
    congr 1
    exact (List.getElem_inj (h₀ := List.idxOf_lt_length_iff.2 (List.getElem_mem hb)) (h₁ := hb) hn).1 (List.getElem_idxOf _)
end Go.Proofs.Ytkkpkcigflikkaa
