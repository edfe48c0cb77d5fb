/-
  Merging in place (the mathematics of slices' stable sort), over arrays.
  How constructors are compared, by a contract.
  The order of constructors.
  Two ranges of constructors exchanged, by a contract.
  A range of constructors turned about a place, by a contract.
-/
import Derived.Sort.LotA
import Derived.Sort.Lot0
import Derived.WalkKit
import Derived.Shelf.Abstract
import Derived.BigQuiet
import Derived.Deep.QuietTactic
import Derived.Shelf.SlSortCmp.InsertionK
import Derived.Laws.Cover1
import Derived.Deep.RegionHeld3
import Derived.Test.YtdbpggncpkocaaaGreatDoorChk
import Derived.Sort.Walk0
import Derived.BigRegion
import Derived.Deep.LoopGhost
import Derived.Shelf.SlSortFuncK.ComposeK
namespace Go.Proofs.YtdbpggncpkocaaaGreatDoor
open Go.Sort
set_option linter.unusedVariables false
variable {α : Type} [Inhabited α]

/-- Two ranges exchanged, as far as n places. -/
def SwpR (d d' : Array α) (a b n : Nat) : Prop := d'.size = d.size ∧ ∀ i, d'[i]! = if a ≤ i ∧ i < a + n then d[b + (i - a)]! else if b ≤ i ∧ i < b + n then d[a + (i - b)]! else d[i]!
theorem swpR_nil (d : Array α) (a b : Nat) : SwpR d d a b 0 := ⟨rfl, fun i => by rw [if_neg (by omega), if_neg (by omega)]⟩
theorem swp_at (d : Array α) (i j k : Nat) (hi : i < d.size) (hj : j < d.size) : (swp d i j)[k]! = if k = j then d[i]! else if k = i then d[j]! else d[k]! := by
  by_cases h1 : k = j
  · subst h1; rw [if_pos rfl]; exact swp_right d i k hj
  · rw [if_neg h1]
    by_cases h2 : k = i
    · subst h2; rw [if_pos rfl]; exact swp_left d k j hi h1
    · rw [if_neg h2]; exact swp_other d i j k h2 h1
theorem SwpR.step {d dk : Array α} {a b k n : Nat} (h : SwpR d dk a b k) (hab : a + n ≤ b) (hk : k < n) (hb : b + n ≤ d.size) : SwpR d (swp dk (a + k) (b + k)) a b (k + 1) := by
  obtain ⟨h1, h2⟩ := h
  refine ⟨by rw [size_swp]; exact h1, fun i => ?_⟩
  rw [swp_at dk (a + k) (b + k) i (by omega) (by omega)]
  by_cases e1 : i = b + k
  · subst e1
    rw [if_pos rfl, h2, if_neg (by omega), if_neg (by omega), if_neg (by omega), if_pos (by omega)]
    congr 1; omega
  · rw [if_neg e1]
    by_cases e2 : i = a + k
    · subst e2
      rw [if_pos rfl, h2, if_neg (by omega), if_neg (by omega), if_pos (by omega)]
      congr 1; omega
    · rw [if_neg e2, h2]
      by_cases c1 : a ≤ i ∧ i < a + k
      · rw [if_pos c1, if_pos (by omega)]
      · have n1 : ¬ (a ≤ i ∧ i < a + (k + 1)) := by omega
        rw [if_neg c1, if_neg n1]
        by_cases c2 : b ≤ i ∧ i < b + k
        · have n2 : b ≤ i ∧ i < b + (k + 1) := by omega
          rw [if_pos c2, if_pos n2]
        · have n2 : ¬ (b ≤ i ∧ i < b + (k + 1)) := by omega
          rw [if_neg c2, if_neg n2]

/-- What stands at a place behind a rotation of a ≤ i < m < b. -/
def rotF (d : Array α) (a m b i : Nat) : α := if a ≤ i ∧ i < a + (b - m) then d[m + (i - a)]! else if a + (b - m) ≤ i ∧ i < b then d[a + (i - (a + (b - m)))]! else d[i]!
def Rot (d d' : Array α) (a m b : Nat) : Prop := d'.size = d.size ∧ ∀ i, d'[i]! = rotF d a m b i
theorem rot_left (d : Array α) (m b : Nat) : Rot d d m m b := ⟨rfl, fun i => by
  unfold rotF
  by_cases h : m ≤ i ∧ i < m + (b - m)
  · rw [if_pos h]; congr 1; omega
  · rw [if_neg h]
    by_cases h2 : m + (b - m) ≤ i ∧ i < b
    · omega
    · rw [if_neg h2]⟩
theorem rot_right (d : Array α) (a m : Nat) : Rot d d a m m := ⟨rfl, fun i => by
  unfold rotF
  rw [if_neg (by omega)]
  by_cases h2 : a + (m - m) ≤ i ∧ i < m
  · rw [if_pos h2]; congr 1; omega
  · rw [if_neg h2]⟩
/-- Where the turning stands: i to the left of m, j to its right. -/
def RotI (d c : Array α) (a m b i j : Nat) : Prop := PermIn a b d c ∧ a + i ≤ m ∧ m + j ≤ b ∧ (∀ x, x < m - i ∨ m + j ≤ x → c[x]! = rotF d a m b x) ∧ (∀ t, t < j → rotF d a m b (m - i + t) = c[m + t]!) ∧ (∀ t, t < i → rotF d a m b (m - i + j + t) = c[m - i + t]!)
theorem rotI_start (d : Array α) (a m b : Nat) (h1 : a ≤ m) (h2 : m ≤ b) : RotI d d a m b (m - a) (b - m) := by
  refine ⟨permIn_refl _ _ _, by omega, by omega, fun x hx => ?_, fun t ht => ?_, fun t ht => ?_⟩
  · unfold rotF; rw [if_neg (by omega), if_neg (by omega)]
  · unfold rotF; rw [if_pos (by omega)]; congr 1; omega
  · unfold rotF; rw [if_neg (by omega), if_pos (by omega)]; congr 1; omega
theorem SwpR.perm {d d' : Array α} {a b n : Nat} (hs : SwpR d d' a b n) (hp : PermIn a (b + n) d d') : PermIn a (b + n) d d' := hp
theorem RotI.more {d c c' : Array α} {a m b i j : Nat} (h : RotI d c a m b i j) (hij : j < i) (hj : 0 < j) (hs : SwpR c c' (m - i) m j) (hp : PermIn (m - i) (m + j) c c') (hb : b ≤ d.size) : RotI d c' a m b (i - j) j := by
  obtain ⟨h1, h2, h3, h4, h5, h6⟩ := h
  have hc := h1.1
  obtain ⟨s1, s2⟩ := hs
  refine ⟨permIn_trans _ _ _ _ _ h1 (permIn_mono _ _ _ _ a b (by omega) (by omega) (by omega) hp), by omega, h3, fun x hx => ?_, fun t ht => ?_, fun t ht => ?_⟩
  · rw [s2]
    by_cases e1 : m - i ≤ x ∧ x < m - i + j
    · rw [if_pos e1]
      have := h5 (x - (m - i)) (by omega)
      rw [show m - i + (x - (m - i)) = x by omega] at this
      exact this.symm
    · rw [if_neg e1, if_neg (by omega)]
      exact h4 x (by omega)
  · rw [s2, if_neg (by omega), if_pos (by omega)]
    have := h6 t (by omega)
    rw [show m - (i - j) + t = m - i + j + t by omega, this]
    congr 1; omega
  · rw [s2, if_neg (by omega), if_neg (by omega)]
    have := h6 (j + t) (by omega)
    rw [show m - (i - j) + j + t = m - i + j + (j + t) by omega, this]
    congr 1; omega
theorem RotI.less {d c c' : Array α} {a m b i j : Nat} (h : RotI d c a m b i j) (hij : i < j) (hi : 0 < i) (hs : SwpR c c' (m - i) (m + j - i) i) (hp : PermIn (m - i) (m + j) c c') (hb : b ≤ d.size) : RotI d c' a m b i (j - i) := by
  obtain ⟨h1, h2, h3, h4, h5, h6⟩ := h
  have hc := h1.1
  obtain ⟨s1, s2⟩ := hs
  refine ⟨permIn_trans _ _ _ _ _ h1 (permIn_mono _ _ _ _ a b (by omega) (by omega) (by omega) hp), h2, by omega, fun x hx => ?_, fun t ht => ?_, fun t ht => ?_⟩
  · rw [s2, if_neg (by omega)]
    by_cases e1 : m + j - i ≤ x ∧ x < m + j - i + i
    · rw [if_pos e1]
      have := h6 (x - (m + j - i)) (by omega)
      rw [show m - i + j + (x - (m + j - i)) = x by omega] at this
      exact this.symm
    · rw [if_neg e1]
      exact h4 x (by omega)
  · rw [s2, if_neg (by omega), if_neg (by omega)]
    exact h5 t (by omega)
  · rw [s2, if_pos (by omega)]
    have := h5 (j - i + t) (by omega)
    rw [show m - i + (j - i) + t = m - i + (j - i + t) by omega, this]
    congr 1; omega
theorem RotI.last {d c c' : Array α} {a m b i : Nat} (h : RotI d c a m b i i) (hs : SwpR c c' (m - i) m i) (hp : PermIn (m - i) (m + i) c c') (hb : b ≤ d.size) : PermIn a b d c' ∧ Rot d c' a m b := by
  obtain ⟨h1, h2, h3, h4, h5, h6⟩ := h
  have hc := h1.1
  obtain ⟨s1, s2⟩ := hs
  refine ⟨permIn_trans _ _ _ _ _ h1 (permIn_mono _ _ _ _ a b (by omega) (by omega) (by omega) hp), s1.trans hc, fun x => ?_⟩
  rw [s2]
  by_cases e1 : m - i ≤ x ∧ x < m - i + i
  · rw [if_pos e1]
    have := h5 (x - (m - i)) (by omega)
    rw [show m - i + (x - (m - i)) = x by omega] at this
    exact this.symm
  · rw [if_neg e1]
    by_cases e2 : m ≤ x ∧ x < m + i
    · rw [if_pos e2]
      have := h6 (x - m) (by omega)
      rw [show m - i + i + (x - m) = x by omega] at this
      exact this.symm
    · rw [if_neg e2]
      exact h4 x (by omega)

variable {lt : α → α → Bool}
theorem SWO.asym {β : Type} {lt : β → β → Bool} (h : SWO lt) {x y : β} (e : lt x y = true) : lt y x = false := by
  cases hy : lt y x with
  | false => rfl
  | true => have := h.trans x y x e hy; rw [h.irrefl] at this; exact this.symm
theorem SortedIn.le (h : SWO lt) {a b : Nat} {d : Array α} (hs : SortedIn lt a b d) {i j : Nat} (hi : a ≤ i) (hij : i ≤ j) (hj : j < b) : lt d[j]! d[i]! = false := by
  rcases Nat.eq_or_lt_of_le hij with e | e
  · subst e; exact h.irrefl _
  · exact hs i j hi e hj
theorem SortedIn.sub {a b a' b' : Nat} {d : Array α} (hs : SortedIn lt a b d) (ha : a ≤ a') (hb : b' ≤ b) : SortedIn lt a' b' d := fun i j h1 h2 h3 => hs i j (by omega) h2 (by omega)
theorem SortedIn.short {a b : Nat} {d : Array α} (h : b ≤ a + 1) : SortedIn lt a b d := fun i j h1 h2 h3 => by omega
theorem SortedIn.other {a b a' b' : Nat} {d d' : Array α} (hs : SortedIn lt a b d) (hp : PermIn a' b' d d') (h : b ≤ a' ∨ b' ≤ a) : SortedIn lt a b d' := fun i j h1 h2 h3 => by
  rw [hp.2.1 i (by omega), hp.2.1 j (by omega)]; exact hs i j h1 h2 h3
/-- What a rotation about m, from st to en, makes of two sorted runs. -/
theorem rot_halves (h : SWO lt) {d d1 : Array α} {a m b mid st en : Nat} (s1 : SortedIn lt a m d) (s2 : SortedIn lt m b d) (e0 : en + st = mid + m) (e1 : a ≤ st) (e2 : st ≤ m) (e3 : m ≤ en) (e4 : en ≤ b) (hA : st < m → m < en → lt d[en - 1]! d[st]! = true) (hB : a < st → en < b → lt d[en]! d[st - 1]! = false) (hr : Rot d d1 st m en) :
    SortedIn lt a st d1 ∧ SortedIn lt st mid d1 ∧ SortedIn lt mid en d1 ∧ SortedIn lt en b d1 ∧ ∀ i j, a ≤ i → i < mid → mid ≤ j → j < b → lt d1[j]! d1[i]! = false := by
  have hm : st + (en - m) = mid := by omega
  have f1 : ∀ i, i < st → d1[i]! = d[i]! := fun i hi => by rw [hr.2]; unfold rotF; rw [if_neg (by omega), if_neg (by omega)]
  have f2 : ∀ i, st ≤ i → i < mid → d1[i]! = d[m + (i - st)]! := fun i hi hj => by rw [hr.2]; unfold rotF; rw [if_pos (by omega)]
  have f3 : ∀ i, mid ≤ i → i < en → d1[i]! = d[st + (i - mid)]! := fun i hi hj => by rw [hr.2]; unfold rotF; rw [if_neg (by omega), if_pos (by omega), hm]
  have f4 : ∀ i, en ≤ i → d1[i]! = d[i]! := fun i hi => by rw [hr.2]; unfold rotF; rw [if_neg (by omega), if_neg (by omega)]
  refine ⟨fun i j x y z => ?_, fun i j x y z => ?_, fun i j x y z => ?_, fun i j x y z => ?_, fun i j x y z u => ?_⟩
  · rw [f1 i (by omega), f1 j (by omega)]; exact s1 i j x y (by omega)
  · rw [f2 i (by omega) (by omega), f2 j (by omega) (by omega)]; exact s2 _ _ (by omega) (by omega) (by omega)
  · rw [f3 i (by omega) (by omega), f3 j (by omega) (by omega)]; exact s1 _ _ (by omega) (by omega) (by omega)
  · rw [f4 i (by omega), f4 j (by omega)]; exact s2 _ _ (by omega) (by omega) (by omega)
  · by_cases c1 : i < st
    · rw [f1 i c1]
      by_cases c2 : j < en
      · rw [f3 j z c2]; exact s1 _ _ x (by omega) (by omega)
      · rw [f4 j (by omega)]
        have g1 := hB (by omega) (by omega)
        have g2 := SortedIn.le h s2 (i := en) (j := j) (by omega) (by omega) u
        have g3 := SortedIn.le h s1 (i := i) (j := st - 1) x (by omega) (by omega)
        exact h.ntrans _ _ _ (h.ntrans _ _ _ g2 g1) g3
    · rw [f2 i (by omega) y]
      by_cases c2 : j < en
      · rw [f3 j z c2]
        have g1 := SWO.asym h (hA (by omega) (by omega))
        have g2 := SortedIn.le h s1 (i := st) (j := st + (j - mid)) (by omega) (by omega) (by omega)
        have g3 := SortedIn.le h s2 (i := m + (i - st)) (j := en - 1) (by omega) (by omega) (by omega)
        exact h.ntrans _ _ _ (h.ntrans _ _ _ g2 g1) g3
      · rw [f4 j (by omega)]
        exact SortedIn.le h s2 (by omega) (by omega) u
/-- Both halves sorted, and nothing of the second below the first. -/
theorem halves_sorted {d1 d2 d3 : Array α} {a b mid : Nat} (hmid : a ≤ mid ∧ mid ≤ b) (hb : b ≤ d1.size) (hc : ∀ i j, a ≤ i → i < mid → mid ≤ j → j < b → lt d1[j]! d1[i]! = false) (p2 : PermIn a mid d1 d2) (s2 : SortedIn lt a mid d2) (p3 : PermIn mid b d2 d3) (s3 : SortedIn lt mid b d3) :
    PermIn a b d1 d3 ∧ SortedIn lt a b d3 := by
  have hz2 := p2.1
  refine ⟨permIn_trans _ _ _ _ _ (permIn_mono _ _ _ _ a b (Nat.le_refl _) hmid.2 hb p2) (permIn_mono _ _ _ _ a b hmid.1 (Nat.le_refl _) (by omega) p3), ?_⟩
  have hs3 : SortedIn lt a mid d3 := SortedIn.other s2 p3 (.inl (Nat.le_refl _))
  have c2 : ∀ i j, a ≤ i → i < mid → mid ≤ j → j < b → lt d2[j]! d2[i]! = false := by
    intro i j x y z u
    rw [p2.2.1 j (.inr z)]
    exact permIn_all d1 d2 a mid (fun v => lt d1[j]! v = false) (by omega) p2 (fun i' x' y' => hc i' j x' y' z u) i x y
  have c3 : ∀ i j, a ≤ i → i < mid → mid ≤ j → j < b → lt d3[j]! d3[i]! = false := by
    intro i j x y z u
    rw [p3.2.1 i (.inl y)]
    exact permIn_all d2 d3 mid b (fun v => lt v d2[i]! = false) (by omega) p3 (fun j' z' u' => c2 i j' x y z' u') j z u
  intro i j x y z
  by_cases c : j < mid
  · exact hs3 i j x y c
  · by_cases c' : i < mid
    · exact c3 i j x c' (by omega) z
    · exact s3 i j (by omega) y z
/-- One element put among those to its right. -/
theorem ins_left (h : SWO lt) {d d' : Array α} {a b i : Nat} (s2 : SortedIn lt (a + 1) b d) (h1 : a + 1 ≤ i) (h2 : i ≤ b) (hl : i = a + 1 ∨ lt d[i - 1]! d[a]! = true) (hr : i = b ∨ lt d[i]! d[a]! = false) (hR : Rot d d' a (a + 1) i) : SortedIn lt a b d' := by
  have f1 : ∀ x, a ≤ x → x < i - 1 → d'[x]! = d[x + 1]! := fun x hx hy => by rw [hR.2]; unfold rotF; rw [if_pos (by omega)]; congr 1; omega
  have f2 : d'[i - 1]! = d[a]! := by rw [hR.2]; unfold rotF; rw [if_neg (by omega), if_pos (by omega)]; congr 1; omega
  have f3 : ∀ x, i ≤ x → d'[x]! = d[x]! := fun x hx => by rw [hR.2]; unfold rotF; rw [if_neg (by omega), if_neg (by omega)]
  have gl : ∀ x, a + 1 ≤ x → x < i → lt d[a]! d[x]! = false := fun x hx hy => by
    rcases hl with e | e
    · omega
    · exact h.ntrans _ _ _ (SWO.asym h e) (SortedIn.le h s2 hx (by omega) (by omega))
  have gr : ∀ x, i ≤ x → x < b → lt d[x]! d[a]! = false := fun x hx hy => by
    rcases hr with e | e
    · omega
    · exact h.ntrans _ _ _ (SortedIn.le h s2 (by omega) hx hy) e
  intro x y hx hxy hy
  by_cases c1 : y < i - 1
  · rw [f1 x hx (by omega), f1 y (by omega) c1]; exact s2 _ _ (by omega) (by omega) (by omega)
  · by_cases c2 : y = i - 1
    · subst c2; rw [f2, f1 x hx (by omega)]; exact gl _ (by omega) (by omega)
    · rw [f3 y (by omega)]
      by_cases c3 : x < i - 1
      · rw [f1 x hx c3]; exact s2 _ _ (by omega) (by omega) hy
      · by_cases c4 : x = i - 1
        · subst c4; rw [f2]; exact gr y (by omega) hy
        · rw [f3 x (by omega)]; exact s2 _ _ (by omega) hxy hy
/-- One element put among those to its left. -/
theorem ins_right (h : SWO lt) {d d' : Array α} {a m i : Nat} (s1 : SortedIn lt a m d) (h1 : a ≤ i) (h2 : i ≤ m) (hl : i = a ∨ lt d[m]! d[i - 1]! = false) (hr : i = m ∨ lt d[m]! d[i]! = true) (hR : Rot d d' i m (m + 1)) : SortedIn lt a (m + 1) d' := by
  have f1 : ∀ x, x < i → d'[x]! = d[x]! := fun x hx => by rw [hR.2]; unfold rotF; rw [if_neg (by omega), if_neg (by omega)]
  have f2 : d'[i]! = d[m]! := by rw [hR.2]; unfold rotF; rw [if_pos (by omega)]; congr 1; omega
  have f3 : ∀ x, i < x → x ≤ m → d'[x]! = d[x - 1]! := fun x hx hy => by rw [hR.2]; unfold rotF; rw [if_neg (by omega), if_pos (by omega)]; congr 1; omega
  have gl : ∀ x, a ≤ x → x < i → lt d[m]! d[x]! = false := fun x hx hy => by
    rcases hl with e | e
    · omega
    · exact h.ntrans _ _ _ e (SortedIn.le h s1 hx (by omega) (by omega))
  have gr : ∀ x, i ≤ x → x < m → lt d[x]! d[m]! = false := fun x hx hy => by
    rcases hr with e | e
    · omega
    · exact h.ntrans _ _ _ (SortedIn.le h s1 (by omega) hx hy) (SWO.asym h e)
  intro x y hx hxy hy
  by_cases c1 : y < i
  · rw [f1 x (by omega), f1 y c1]; exact s1 _ _ hx hxy (by omega)
  · by_cases c2 : y = i
    · subst c2; rw [f2, f1 x (by omega)]; exact gl x hx (by omega)
    · rw [f3 y (by omega) (by omega)]
      by_cases c3 : x < i
      · rw [f1 x c3]; exact s1 _ _ hx (by omega) (by omega)
      · by_cases c4 : x = i
        · subst c4; rw [f2]; exact gr _ (by omega) (by omega)
        · rw [f3 x (by omega) (by omega)]; exact s1 _ _ (by omega) (by omega) (by omega)
/-- One element carried up by one place more. -/
theorem Rot.up {d c : Array α} {a k : Nat} (h : Rot d c a (a + 1) (k + 1)) (hk : a ≤ k) (hs : k + 1 < d.size) : Rot d (swp c k (k + 1)) a (a + 1) (k + 2) := by
  obtain ⟨h1, h2⟩ := h
  refine ⟨by rw [size_swp]; exact h1, fun x => ?_⟩
  rw [swp_at c k (k + 1) x (by omega) (by omega)]
  unfold rotF at h2 ⊢
  by_cases e1 : x = k + 1
  · subst e1; rw [if_pos rfl, h2, if_neg (by omega), if_pos (by omega), if_neg (by omega), if_pos (by omega)]; congr 1; omega
  · rw [if_neg e1]
    by_cases e2 : x = k
    · subst e2; rw [if_pos rfl, h2, if_neg (by omega), if_neg (by omega), if_pos (by omega)]; congr 1; omega
    · rw [if_neg e2, h2]
      by_cases c1 : a ≤ x ∧ x < k
      · rw [if_pos (by omega), if_pos (by omega)]
      · rw [if_neg (by omega), if_neg (by omega), if_neg (by omega), if_neg (by omega)]
/-- One element carried down by one place more. -/
theorem Rot.down {d c : Array α} {m k : Nat} (h : Rot d c (k + 1) m (m + 1)) (hk : k < m) (hs : m < d.size) : Rot d (swp c (k + 1) k) k m (m + 1) := by
  obtain ⟨h1, h2⟩ := h
  refine ⟨by rw [size_swp]; exact h1, fun x => ?_⟩
  rw [swp_at c (k + 1) k x (by omega) (by omega)]
  unfold rotF at h2 ⊢
  by_cases e1 : x = k
  · subst e1; rw [if_pos rfl, h2, if_pos (by omega), if_pos (by omega)]; congr 1; omega
  · rw [if_neg e1]
    by_cases e2 : x = k + 1
    · subst e2; rw [if_pos rfl, h2, if_neg (by omega), if_neg (by omega), if_neg (by omega), if_pos (by omega)]; congr 1; omega
    · rw [if_neg e2, h2]
      by_cases c1 : k + 1 < x ∧ x < m + 1
      · rw [if_neg (by omega), if_pos (by omega), if_neg (by omega), if_pos (by omega)]; congr 1; omega
      · rw [if_neg (by omega), if_neg (by omega), if_neg (by omega), if_neg (by omega)]

/-- Runs of bs, from place f on, are sorted. -/
def Runs (lt : α → α → Bool) (bs n f : Nat) (d : Array α) : Prop := ∀ q, f ≤ q * bs → SortedIn lt (q * bs) (min (q * bs + bs) n) d
/-- .. up to place t. -/
def RunsTo (lt : α → α → Bool) (bs t : Nat) (d : Array α) : Prop := ∀ q, q * bs + bs ≤ t → SortedIn lt (q * bs) (q * bs + bs) d
theorem RunsTo.step {bs q n : Nat} {d d' : Array α} (hb : 0 < bs) (h : RunsTo lt bs (q * bs) d) (hp : PermIn (q * bs) (q * bs + bs) d d') (hs : SortedIn lt (q * bs) (q * bs + bs) d') : RunsTo lt bs (q * bs + bs) d' := by
  intro p hpq
  have hle : p ≤ q := by
    have : p * bs ≤ q * bs := by omega
    exact Nat.le_of_mul_le_mul_right this hb
  rcases Nat.eq_or_lt_of_le hle with e | e
  · subst e; exact hs
  · have h2 : (p + 1) * bs ≤ q * bs := Nat.mul_le_mul_right bs e
    rw [Nat.add_mul, Nat.one_mul] at h2
    exact SortedIn.other (h p h2) hp (.inl h2)
/-- All runs, where those up to q and the last one are sorted. -/
theorem runs_of {bs q n : Nat} {d d' : Array α} (hb : 0 < bs) (h : RunsTo lt bs (q * bs) d) (hq : q * bs ≤ n ∨ n ≤ q * bs) (hlt : n < q * bs + bs) (hp : PermIn (q * bs) n d d') (hs : SortedIn lt (q * bs) n d') : Runs lt bs n 0 d' := by
  intro p _
  rcases Nat.lt_trichotomy p q with e | e | e
  · have h2 : (p + 1) * bs ≤ q * bs := Nat.mul_le_mul_right bs e
    rw [Nat.add_mul, Nat.one_mul] at h2
    exact SortedIn.sub (SortedIn.other (h p h2) hp (.inl h2)) (Nat.le_refl _) (Nat.min_le_left _ _)
  · subst e; exact SortedIn.sub hs (Nat.le_refl _) (Nat.min_le_right _ _)
  · have h2 : (q + 1) * bs ≤ p * bs := Nat.mul_le_mul_right bs e
    rw [Nat.add_mul, Nat.one_mul] at h2
    exact SortedIn.short (by have := Nat.min_le_right (p * bs + bs) n; omega)
theorem runs_two {bs q n : Nat} {d : Array α} (h : Runs lt bs n (q * (2 * bs)) d) : SortedIn lt (q * (2 * bs)) (min (q * (2 * bs) + bs) n) d ∧ SortedIn lt (q * (2 * bs) + bs) (min (q * (2 * bs) + 2 * bs) n) d := by
  have e1 : q * (2 * bs) = (2 * q) * bs := by rw [Nat.mul_comm 2 q, Nat.mul_assoc]
  have e2 : q * (2 * bs) + bs = (2 * q + 1) * bs := by rw [Nat.add_mul, Nat.one_mul, e1]
  have h1 := h (2 * q) (by omega)
  have h2 := h (2 * q + 1) (by omega)
  rw [← e1] at h1
  rw [← e2, show q * (2 * bs) + bs + bs = q * (2 * bs) + 2 * bs by omega] at h2
  exact ⟨h1, h2⟩
theorem Runs.other {bs n f f' a b : Nat} {d d' : Array α} (h : Runs lt bs n f d) (hp : PermIn a b d d') (hf : f ≤ f') (hb : b ≤ f') : Runs lt bs n f' d' := fun q hq => SortedIn.other (h q (by omega)) hp (.inr (by omega))
theorem Runs.whole {bs n : Nat} {d : Array α} (h : Runs lt bs n 0 d) (hb : n ≤ bs) : SortedIn lt 0 n d := by
  have := h 0 (by omega)
  rw [Nat.zero_mul, Nat.zero_add, Nat.min_eq_right hb] at this
  exact this
theorem Runs.from {bs n f : Nat} {d : Array α} (h : Runs lt bs n 0 d) : Runs lt bs n f d := fun q _ => h q (Nat.zero_le _)
theorem runsTo_nil {bs : Nat} (hb : 0 < bs) (d : Array α) : RunsTo lt bs 0 d := fun q hq => by omega
end Go.Proofs.YtdbpggncpkocaaaGreatDoor

namespace Go.Proofs.YtdbpggncpkocaaaGreatDoor
open Go.RowKit Go.Shelf Go.Sort
set_option linter.unusedVariables false

theorem isNaNs_c (s : ByteArray) (w : World) : Calls Tryz.prog 55 #[.string s] w fun e w' => e = .returned (.bool false) ∧ w' = w := by
  go_enter Tryz.func55, Tryz.ntmps55
  go_wp2
  go_ret
  exact ⟨by simp, rfl⟩
theorem isNaNi_c (s : Int) (w : World) : Calls Tryz.prog 56 #[.int .i64 s] w fun e w' => e = .returned (.bool false) ∧ w' = w := by
  go_enter Tryz.func56, Tryz.ntmps56
  go_wp2
  go_ret
  exact ⟨by simp, rfl⟩
/-- Two texts, two numbers compared. -/
def cmpS (x y : ByteArray) : Int := if Op.bytesLess x.toList y.toList = true then -1 else if !(Op.bytesLess x.toList y.toList || x.toList == y.toList) then 1 else 0
def cmpI (x y : Int) : Int := if x < y then -1 else if y < x then 1 else 0
set_option maxHeartbeats 1000000 in
theorem cmpI_c (x y : Int) (w : World) : Calls Tryz.prog 44 #[.int .i64 x, .int .i64 y] w fun e w' => e = .returned (.int .i64 (cmpI x y)) ∧ w' = w := by
  go_enter Tryz.func44, Tryz.ntmps44
  go_wp2_with (go_at_call 56; refine (isNaNi_c _ _).mono ?_; rintro e w' ⟨rfl, hw⟩; rw [hw])
  all_goals (go_ret; refine ⟨?_, rfl⟩; unfold cmpI; (repeat' split) <;> first | rfl | (exfalso; omega))
set_option maxHeartbeats 1000000 in
theorem cmpS_c (x y : ByteArray) (w : World) : Calls Tryz.prog 43 #[.string x, .string y] w fun e w' => e = .returned (.int .i64 (cmpS x y)) ∧ w' = w := by
  obtain ⟨b1, h1⟩ : ∃ b, Op.bytesLess x.toList y.toList = b := ⟨_, rfl⟩
  obtain ⟨b2, h2⟩ : ∃ b, (x.toList == y.toList) = b := ⟨_, rfl⟩
  have HR : Hid (cmpS x y = if b1 = true then -1 else if !(b1 || b2) then 1 else 0) := by show _ = _; unfold cmpS; rw [h1, h2]
  generalize cmpS x y = c at HR ⊢
  cases b1 <;> cases b2
  all_goals (go_enter Tryz.func43, Tryz.ntmps43; go_wp2_with (go_at_call 55; refine (isNaNs_c _ _).mono ?_; rintro e w' ⟨rfl, hw⟩; rw [hw]); go_ret; exact ⟨by rw [HR.out]; simp, rfl⟩)
/-- The first of two that is not 0. -/
def orM (a b : Int) : Int := if a = 0 then b else a
set_option maxHeartbeats 1000000 in
theorem orI_c (a b : Int) (B cap : Nat) (w : World) (h0 : w.cell? ⟨B, 0, none⟩ = some (.int .i64 a)) (h1 : w.cell? ⟨B, 1, none⟩ = some (.int .i64 b)) : Calls Tryz.prog 42 #[.slice (some ⟨B, 0, none⟩) 2 cap] w fun e w' => e = .returned (.int .i64 (orM a b)) ∧ w' = w := by
  have HO : Hid (orM a b = if a = 0 then b else a) := rfl
  generalize orM a b = o at HO ⊢
  by_cases ha : a = 0
  · subst ha
    by_cases hb : b = 0
    · subst hb
      go_enter Tryz.func42, Tryz.ntmps42
      go_wp2
      refine wp_loop_rounds 3 ?_
      rw [rounds_succ]
      go_wp2
      rw [rounds_succ]
      go_wp2
      rw [rounds_succ]
      go_wp2
      go_ret
      exact ⟨by rw [HO.out]; rfl, rfl⟩
    · have hbb : (b != 0) = true := by simpa using hb
      go_enter Tryz.func42, Tryz.ntmps42
      go_wp2
      refine wp_loop_rounds 2 ?_
      rw [rounds_succ]
      go_wp2
      rw [rounds_succ]
      go_wp2
      go_ret
      exact ⟨by rw [HO.out]; rfl, rfl⟩
  · have hbb : (a != 0) = true := by simpa using ha
    go_enter Tryz.func42, Tryz.ntmps42
    go_wp2
    refine wp_loop_rounds 1 ?_
    rw [rounds_succ]
    go_wp2
    go_ret
    exact ⟨by rw [HO.out, if_neg ha] <;> rfl, rfl⟩
theorem or_at (V : World) (n : Nat) (hn : V.heap.size = n) (a b : Int) : Calls Tryz.prog 42 #[.slice (some ⟨n, 0, none⟩) 2 2] (V.alloc (.cells #[.int .i64 a, .int .i64 b] 3)).drew fun e w' => e = .returned (.int .i64 (orM a b)) ∧ w' = (V.alloc (.cells #[.int .i64 a, .int .i64 b] 3)).drew := by
  subst hn
  exact orI_c a b _ _ _ ((Blk.new V #[.int .i64 a, .int .i64 b] 3).cell 0 _ rfl) ((Blk.new V #[.int .i64 a, .int .i64 b] 3).cell 1 _ rfl)
/-- A constructor: its name, its arity, its type, its tag. -/
abbrev CT := ByteArray × Int × ByteArray × Int
def cnC (c : CT) : List Value := [.string c.1, .int .i64 c.2.1, .string c.2.2.1, .int .i64 c.2.2.2]
def cfC (x y : CT) : Int := orM (cmpS x.2.2.1 y.2.2.1) (cmpI x.2.2.2 y.2.2.2)
set_option maxHeartbeats 2000000 in
set_option maxRecDepth 100000 in
theorem byTT_c (x y : CT) (w : World) : Calls Tryz.prog 30 #[.agg (cnC x).toArray, .agg (cnC y).toArray] w fun e w' => e = .returned (.int .i64 (cfC x y)) ∧ ∃ q os, w' = grow (w.drewN q) os := by
  obtain ⟨n1, a1, t1, g1⟩ := x
  obtain ⟨n2, a2, t2, g2⟩ := y
  simp only [cnC]
  have HR : Hid (cfC (n1, a1, t1, g1) (n2, a2, t2, g2) = orM (cmpS t1 t2) (cmpI g1 g2)) := rfl
  have hm : Tryz.prog.follows Departure.mixedOrders = true := by kernel_rfl
  obtain ⟨V, hV⟩ : ∃ V, (w.alloc (.cells #[.string n1, .int .i64 a1, .string t1, .int .i64 g1] 38)).alloc (.cells #[.string n2, .int .i64 a2, .string t2, .int .i64 g2] 38) = V := ⟨_, rfl⟩
  have HV : Hid ((w.alloc (.cells #[.string n1, .int .i64 a1, .string t1, .int .i64 g1] 38)).alloc (.cells #[.string n2, .int .i64 a2, .string t2, .int .i64 g2] 38) = V) := hV
  have hs : V.heap.size = w.heap.size + 1 + 1 := by rw [← hV]; simp
  have c1 : V.cell? ⟨w.heap.size, 2, none⟩ = some (.string t1) := by rw [← hV]; exact ((Blk.new w _ _).alloc _).cell 2 _ rfl
  have c2 : V.cell? ⟨w.heap.size, 3, none⟩ = some (.int .i64 g1) := by rw [← hV]; exact ((Blk.new w _ _).alloc _).cell 3 _ rfl
  have d1 : V.cell? ⟨w.heap.size + 1, 2, none⟩ = some (.string t2) := by rw [← hV]; exact (Blk.new2 w _ _ _).cell 2 _ rfl
  have d2 : V.cell? ⟨w.heap.size + 1, 3, none⟩ = some (.int .i64 g2) := by rw [← hV]; exact (Blk.new2 w _ _ _).cell 3 _ rfl
  have hl1 : w.heap.size < V.heap.size := by omega
  have hl2 : w.heap.size + 1 < V.heap.size := by omega
  have HS0 : (V.cell? ⟨w.heap.size, 2, none⟩ = some (.string t1) ∧ V.cell? ⟨w.heap.size, 3, none⟩ = some (.int .i64 g1) ∧ V.cell? ⟨w.heap.size + 1, 2, none⟩ = some (.string t2) ∧ V.cell? ⟨w.heap.size + 1, 3, none⟩ = some (.int .i64 g2)) := ⟨c1, c2, d1, d2⟩
  have HO : Hid (∀ a b : Int, Calls Tryz.prog 42 #[.slice (some ⟨w.heap.size + 1 + 1, 0, none⟩) 2 2] (V.alloc (.cells #[.int .i64 a, .int .i64 b] 3)).drew fun e w' => e = .returned (.int .i64 (orM a b)) ∧ w' = (V.alloc (.cells #[.int .i64 a, .int .i64 b] 3)).drew) := or_at V _ hs
  have HF : Hid (∀ o : Obj, ∃ q os, (V.alloc o).drew = grow (w.drewN q) os) := fun o => ⟨1, #[.cells #[.string n1, .int .i64 a1, .string t1, .int .i64 g1] 38, .cells #[.string n2, .int .i64 a2, .string t2, .int .i64 g2] 38, o], by rw [← hV]; rfl⟩
  clear hV
  go_enter Tryz.func30, Tryz.ntmps30
  go_wp2_with fail
  rw [HV.out]
  go_region_held3 (fun X : World => X.cell? ⟨w.heap.size, 2, none⟩ = some (.string t1) ∧ X.cell? ⟨w.heap.size, 3, none⟩ = some (.int .i64 g1) ∧ X.cell? ⟨w.heap.size + 1, 2, none⟩ = some (.string t2) ∧ X.cell? ⟨w.heap.size + 1, 3, none⟩ = some (.int .i64 g2))
    (first | with_reducible exact HS0 | go_keep)
    (first
    | (go_at_call 43; refine (cmpS_c _ _ _).mono ?_; rintro e w' ⟨rfl, hw⟩; rw [hw])
    | (go_at_call 44; refine (cmpI_c _ _ _).mono ?_; rintro e w' ⟨rfl, hw⟩; rw [hw])
    | (go_at_call 42; (with_reducible refine (HO.out _ _).mono ?_); rintro e w' ⟨rfl, hw⟩; rw [hw]))
  all_goals go_wp2
  all_goals go_ret
  all_goals exact ⟨by rw [HR.out]; rfl, HF.out _⟩
end Go.Proofs.YtdbpggncpkocaaaGreatDoor

namespace Go.Proofs.YtdbpggncpkocaaaGreatDoor
open Go.RowKit Go.Shelf Go.Sort
set_option linter.unusedVariables false

/-- One constructor ahead of another: by its type, then by its tag. -/
def ltC (x y : CT) : Bool := decide (x.2.2.1.data.toList < y.2.2.1.data.toList) || (decide (x.2.2.1.data.toList = y.2.2.1.data.toList) && decide (x.2.2.2 < y.2.2.2))
theorem ltC_of (x y : CT) : ltOf cfC x y = ltC x y := by
  obtain ⟨n1, a1, t1, g1⟩ := x
  obtain ⟨n2, a2, t2, g2⟩ := y
  simp only [ltOf, cfC, ltC, orM, cmpS, cmpI, bytesLess_eq, ByteArray.toList_eq]
  generalize t1.data.toList = s1
  generalize t2.data.toList = s2
  by_cases h1 : s1 < s2
  · simp [h1]
  · by_cases h2 : s1 = s2
    · subst h2
      simp [h1]
      by_cases h3 : g1 < g2
      · simp [h3]
      · by_cases h4 : g2 < g1 <;> simp [h3, h4]
    · simp [h1, h2]
theorem swoC : SWO (ltOf cfC) := by
  have e : ltOf cfC = ltC := by funext x y; exact ltC_of x y
  rw [e]
  refine ⟨fun x => ?_, fun x y z h1 h2 => ?_, fun x y z h1 h2 => ?_⟩
  · simp [ltC, List.lt_irrefl]
  · simp only [ltC, Bool.or_eq_true, Bool.and_eq_true, decide_eq_true_eq] at h1 h2 ⊢
    rcases h1 with h1 | ⟨h1, g1⟩ <;> rcases h2 with h2 | ⟨h2, g2⟩
    · exact .inl (List.lt_trans h1 h2)
    · exact .inl (h2 ▸ h1)
    · exact .inl (h1 ▸ h2)
    · exact .inr ⟨h1.trans h2, by omega⟩
  · simp only [ltC, Bool.or_eq_false_iff, Bool.and_eq_false_iff, decide_eq_false_iff_not] at h1 h2 ⊢
    obtain ⟨h1, k1⟩ := h1
    obtain ⟨h2, k2⟩ := h2
    have l1 := List.not_lt.1 h1
    have l2 := List.not_lt.1 h2
    refine ⟨List.not_lt.2 (List.le_trans l2 l1), ?_⟩
    by_cases e1 : x.2.2.1.data.toList = z.2.2.1.data.toList
    · right
      rw [e1] at l1
      have e2 := List.le_antisymm l1 l2
      rcases k1 with k1 | k1
      · exact absurd (e1.trans e2.symm) k1
      · rcases k2 with k2 | k2
        · exact absurd e2 k2
        · omega
    · exact .inl e1
end Go.Proofs.YtdbpggncpkocaaaGreatDoor

namespace Go.Proofs.YtdbpggncpkocaaaGreatDoor
open Go.RowKit Go.Shelf Go.Sort
set_option linter.unusedVariables false

theorem cnC_len (x : CT) : (cnC x).length = 4 := rfl
theorem cnC_one (x : CT) : ∀ v ∈ cnC x, v.oneCell' = true := by
  intro v hv
  simp only [cnC, List.mem_cons, List.not_mem_nil, or_false] at hv
  rcases hv with rfl | rfl | rfl | rfl <;> rfl
/-- A world of the sort's: the row at blk, off holds d. -/
def sW (w : World) (blk off m : Nat) (d : Array CT) (os : Array Obj) : World := sortWorldK cnC 4 w blk off m d os
theorem sW_start {w : World} {blk off : Nat} {d : Array CT} (h : HoldsK cnC 4 w blk off d) : w = sW w blk off 0 d #[] := by
  unfold sW sortWorldK; rw [grow_empty]; exact (putRowK_self cnC 4 w blk off d h).symm
theorem sW_holds {w : World} {blk off m : Nat} {d dk : Array CT} {os : Array Obj} (h : HoldsK cnC 4 w blk off d) (hb : blk < w.heap.size) (hs : dk.size = d.size) : HoldsK cnC 4 (sW w blk off m dk os) blk off dk := holdsK_sortWorldK_c cnC 4 w blk off d dk m os h hb hs
theorem sW_size (w : World) (blk off m : Nat) (d : Array CT) (os : Array Obj) : w.heap.size ≤ (sW w blk off m d os).heap.size := size_sortWorldK_c cnC 4 w blk off m d os

/-- What a walk asks of a row of constructors in memory: the four cells of a place. -/
theorem holds4 {W : World} {blk off : Nat} {d : Array CT} (h : HoldsK cnC 4 W blk off d) (i : Nat) (hi : i < d.size) :
    W.cell? ⟨blk, off + i * 4, none⟩ = some (.string d[i]!.1) ∧ W.cell? ⟨blk, off + i * 4 + 1, none⟩ = some (.int .i64 d[i]!.2.1) ∧ W.cell? ⟨blk, off + i * 4 + 2, none⟩ = some (.string d[i]!.2.2.1) ∧ W.cell? ⟨blk, off + i * 4 + 3, none⟩ = some (.int .i64 d[i]!.2.2.2) := by
  have h0 := HoldsK.cells h cnC_len hi 0 _ rfl
  have h1 := HoldsK.cells h cnC_len hi 1 _ rfl
  have h2 := HoldsK.cells h cnC_len hi 2 _ rfl
  have h3 := HoldsK.cells h cnC_len hi 3 _ rfl
  rw [Addr.add_lit] at h0 h1 h2 h3
  exact ⟨h0, h1, h2, h3⟩
theorem holds4f {W : World} {blk off : Nat} {d : Array CT} (h : HoldsK cnC 4 W blk off d) (i : Nat) (hi : i < d.size) :
    W.frozen? ⟨blk, off + i * 4, none⟩ = false ∧ W.frozen? ⟨blk, off + i * 4 + 1, none⟩ = false ∧ W.frozen? ⟨blk, off + i * 4 + 2, none⟩ = false ∧ W.frozen? ⟨blk, off + i * 4 + 3, none⟩ = false := by
  have h0 := (h.cell hi (show 0 < 4 by omega)).2
  have h1 := (h.cell hi (show 1 < 4 by omega)).2
  have h2 := (h.cell hi (show 2 < 4 by omega)).2
  have h3 := (h.cell hi (show 3 < 4 by omega)).2
  exact ⟨h0, h1, h2, h3⟩
/-- The exchange's eight stores, as a walk leaves them. -/
theorem sW_swp (w : World) (blk off m : Nat) (d : Array CT) (os : Array Obj) (hb : blk < w.heap.size) (i j : Nat) (hi : i < d.size) (hj : j < d.size) :
    ((sW w blk off m d os).drew.setCells blk (off + i * 4) (cnC d[j]!)).setCells blk (off + j * 4) (cnC d[i]!) = sW w blk off (m + 1) (swp d i j) os :=
  sortWorldK_swp_c cnC 4 w blk off cnC_len m d os hb i j hi hj

theorem setCells4 (W : World) (blk o : Nat) (a b c e : Value) : W.setCells blk o [a, b, c, e] = (((W.setCell ⟨blk, o, none⟩ a).setCell ⟨blk, o + 1, none⟩ b).setCell ⟨blk, o + 2, none⟩ c).setCell ⟨blk, o + 3, none⟩ e := rfl
theorem drew8 (W : World) (p0 p1 p2 p3 p4 p5 p6 p7 : Addr) (v0 v1 v2 v3 v4 v5 v6 v7 : Value) : ((((((((W.setCell p0 v0).setCell p1 v1).setCell p2 v2).setCell p3 v3).setCell p4 v4).setCell p5 v5).setCell p6 v6).setCell p7 v7).drew = (((((((W.drew.setCell p0 v0).setCell p1 v1).setCell p2 v2).setCell p3 v3).setCell p4 v4).setCell p5 v5).setCell p6 v6).setCell p7 v7 := by
  have h : ∀ (W : World) (p : Addr) (v : Value), (W.setCell p v).drew = W.drew.setCell p v := fun W p v => by simp only [World.setCell, World.drew]
  simp only [h]
theorem sW_swp8 (w : World) (blk off m : Nat) (d : Array CT) (os : Array Obj) (hb : blk < w.heap.size) (i j : Nat) (hi : i < d.size) (hj : j < d.size) :
    (((((((((sW w blk off m d os).setCell ⟨blk, off + i * 4, none⟩ (.string d[j]!.1)).setCell ⟨blk, off + i * 4 + 1, none⟩ (.int .i64 d[j]!.2.1)).setCell ⟨blk, off + i * 4 + 2, none⟩ (.string d[j]!.2.2.1)).setCell ⟨blk, off + i * 4 + 3, none⟩ (.int .i64 d[j]!.2.2.2)).setCell ⟨blk, off + j * 4, none⟩ (.string d[i]!.1)).setCell ⟨blk, off + j * 4 + 1, none⟩ (.int .i64 d[i]!.2.1)).setCell ⟨blk, off + j * 4 + 2, none⟩ (.string d[i]!.2.2.1)).setCell ⟨blk, off + j * 4 + 3, none⟩ (.int .i64 d[i]!.2.2.2)).drew = sW w blk off (m + 1) (swp d i j) os := by
  have := sW_swp w blk off m d os hb i j hi hj
  simp only [cnC] at this
  rw [setCells4, setCells4] at this
  rw [drew8]
  exact this
/-- What the exchange of ranges leaves. -/
def SwpPost (w : World) (blk off : Nat) (d : Array CT) (a b n : Nat) (w' : World) : Prop := ∃ m d' os, w' = sW w blk off m d' os ∧ SwpR d d' a b n ∧ PermIn a (b + n) d d'
set_option maxRecDepth 100000 in
set_option maxHeartbeats 4000000 in
theorem swapR_c (cmp : Value) (blk off cap a b n : Nat) (d : Array CT) (w : World) (hH : HoldsK cnC 4 w blk off d) (hblk : blk < w.heap.size) (hab : a + n ≤ b) (hb : b + n ≤ d.size) (hsz : d.size < 4611686018427387904) :
    Calls Tryz.prog 107 #[.slice (some ⟨blk, off, none⟩) d.size cap, .int .i64 a, .int .i64 b, .int .i64 n, cmp] w fun e w' => e = .returned (.tuple #[]) ∧ SwpPost w blk off d a b n w' := by
  have HST : Hid (w = sW w blk off 0 d #[]) := sW_start hH
  have HH : Hid (HoldsK cnC 4 w blk off d) := hH
  have hm : Tryz.prog.follows Departure.mixedOrders = true := by kernel_rfl
  clear hH
  go_enter Tryz.func107, Tryz.ntmps107
  go_wp2
  go_loopg [10] n (fun g vi wr => ∃ (i m : Nat) (dk : Array CT) (os : Array Obj), vi = .int .i64 i ∧ i ≤ n ∧ n - i ≤ g ∧ dk.size = d.size ∧ wr = sW w blk off m dk os ∧ Hid (SwpR d dk a b i ∧ PermIn a (b + n) d dk))
  case atStart => exact ⟨0, 0, d, #[], rfl, Nat.zero_le _, Nat.le_refl _, rfl, HST.out, (⟨swpR_nil d a b, permIn_refl _ _ _⟩ : _ ∧ _)⟩
  case round =>
    obtain ⟨i, m, dk, os, rfl, hin, hg, hsk, rfl, HI⟩ := hrel
    by_cases hlt : i < n
    · have hltz : (i : Int) < (n : Int) := by omega
      have hHk := sW_holds (m := m) (os := os) HH.out hblk hsk
      obtain ⟨c0, c1, c2, c3⟩ := holds4 hHk (a + i) (by omega)
      obtain ⟨e0, e1, e2, e3⟩ := holds4 hHk (b + i) (by omega)
      obtain ⟨f0, f1, f2, f3⟩ := holds4f hHk (a + i) (by omega)
      obtain ⟨k0, k1, k2, k3⟩ := holds4f hHk (b + i) (by omega)
      have hW1 : IntKind.i64.wrap ((a : Int) + (i : Int)) = ((a + i : Nat) : Int) := by rw [IntKind.wrap_i64]; omega
      have hW2 : IntKind.i64.wrap ((b : Int) + (i : Int)) = ((b + i : Nat) : Int) := by rw [IntKind.wrap_i64]; omega
      have l1 : ((a + i : Nat) : Int) < (d.size : Int) := by omega
      have l2 : ((b + i : Nat) : Int) < (d.size : Int) := by omega
      generalize hwq : sW w blk off m dk os = wq at *
      have HWQ : Hid (sW w blk off m dk os = wq) := hwq
      clear hwq
      go_wp2_with fail
      go_big_region
      all_goals go_wp2
      go_roundg (n - (i + 1))
      case measure => omega
      case rel =>
        refine ⟨i + 1, m + 1, swp dk (a + i) (b + i), os, by go_num, by omega, by omega, by rw [size_swp]; exact hsk, ?_, (show Hid _ from ?_)⟩
        · rw [← HWQ.out]
          exact sW_swp8 w blk off m dk os hblk (a + i) (b + i) (by omega) (by omega)
        · exact (⟨HI.out.1.step hab hlt hb, permIn_trans _ _ _ _ _ HI.out.2 (swp_permIn dk a (b + n) (a + i) (b + i) (by omega) (by omega) (by omega) (by omega) (by omega))⟩ : _ ∧ _)
    · have hltz : ¬ (i : Int) < (n : Int) := by omega
      have hi : i = n := by omega
      subst hi
      go_wp2
      go_end0
      exact ⟨rfl, ⟨m, dk, os, rfl, HI.out.1, HI.out.2⟩⟩
end Go.Proofs.YtdbpggncpkocaaaGreatDoor

namespace Go.Proofs.YtdbpggncpkocaaaGreatDoor
open Go.RowKit Go.Shelf Go.Sort
set_option linter.unusedVariables false

theorem sW_on (w : World) (blk off n m : Nat) (dk dk' : Array CT) (os os' : Array Obj) (hb : blk < w.heap.size) (h : dk'.size = dk.size) : sW (sW w blk off n dk os) blk off m dk' os' = sW w blk off (n + m) dk' (os ++ os') := sortWorldK_on cnC 4 w blk off n m dk dk' os os' hb h
theorem sW_lt {w : World} {blk : Nat} (hb : blk < w.heap.size) (off n : Nat) (dk : Array CT) (os : Array Obj) : blk < (sW w blk off n dk os).heap.size := Nat.lt_of_lt_of_le hb (sW_size w blk off n dk os)
/-- swapRange in a world of the sort's, its arguments as whole numbers. -/
theorem swapR_at (cmp : Value) {blk off : Nat} (cap : Nat) {d dk : Array CT} {w : World} (hH : HoldsK cnC 4 w blk off d) (hblk : blk < w.heap.size) (hsz : d.size < 4611686018427387904) (q : Nat) (os : Array Obj) (hs : dk.size = d.size) (a b n : Nat) (hab : a + n ≤ b) (hb : b + n ≤ d.size) (x y z : Int) (hx : x = (a : Int)) (hy : y = (b : Int)) (hz : z = (n : Int)) :
    Calls Tryz.prog 107 #[.slice (some ⟨blk, off, none⟩) d.size cap, .int .i64 x, .int .i64 y, .int .i64 z, cmp] (sW w blk off q dk os) fun e w' => e = .returned (.tuple #[]) ∧ SwpPost (sW w blk off q dk os) blk off dk a b n w' := by
  subst hx hy hz
  rw [← hs]
  exact swapR_c cmp blk off cap a b n dk _ (sW_holds hH hblk hs) (sW_lt hblk _ _ _ _) hab (by omega) (by omega)
/-- What the turning leaves. -/
def RotPost (w : World) (blk off : Nat) (d : Array CT) (a m b : Nat) (w' : World) : Prop := ∃ q d' os, w' = sW w blk off q d' os ∧ Rot d d' a m b ∧ PermIn a b d d'

set_option maxRecDepth 100000 in
set_option maxHeartbeats 4000000 in
theorem rotate_c (cmp : Value) (blk off cap a m b : Nat) (d : Array CT) (w : World) (hH : HoldsK cnC 4 w blk off d) (hblk : blk < w.heap.size) (h1 : a < m) (h2 : m < b) (hb : b ≤ d.size) (hsz : d.size < 4611686018427387904) :
    Calls Tryz.prog 70 #[.slice (some ⟨blk, off, none⟩) d.size cap, .int .i64 a, .int .i64 m, .int .i64 b, cmp] w fun e w' => e = .returned (.tuple #[]) ∧ RotPost w blk off d a m b w' := by
  have HST : Hid (w = sW w blk off 0 d #[]) := sW_start hH
  have HH : Hid (HoldsK cnC 4 w blk off d) := hH
  have HC : Hid (∀ (q : Nat) (dk : Array CT) (os : Array Obj), dk.size = d.size → ∀ a b n : Nat, a + n ≤ b → b + n ≤ d.size → ∀ x y z : Int, x = (a : Int) → y = (b : Int) → z = (n : Int) → Calls Tryz.prog 107 #[.slice (some ⟨blk, off, none⟩) d.size cap, .int .i64 x, .int .i64 y, .int .i64 z, cmp] (sW w blk off q dk os) fun e w' => e = .returned (.tuple #[]) ∧ SwpPost (sW w blk off q dk os) blk off dk a b n w') := fun q dk os hs a b n hab hb x y z hx hy hz => swapR_at cmp cap hH hblk hsz q os hs a b n hab hb x y z hx hy hz
  have HI0 : Hid (RotI d d a m b (m - a) (b - m)) := rotI_start d a m b (by omega) (by omega)
  clear hH
  go_enter Tryz.func70, Tryz.ntmps70
  go_wp2
  go_loopg [10, 11] (b - a) (fun g vi vj wr => ∃ (i j q : Nat) (dk : Array CT) (os : Array Obj), vi = .int .i64 i ∧ vj = .int .i64 j ∧ 0 < i ∧ 0 < j ∧ i + j ≤ g ∧ i ≤ m ∧ m + j ≤ d.size ∧ dk.size = d.size ∧ wr = sW w blk off q dk os ∧ Hid (RotI d dk a m b i j))
  case atStart => exact ⟨m - a, b - m, 0, d, #[], by congr 1; omega, by congr 1; omega, by omega, by omega, by omega, by omega, by omega, rfl, HST.out, HI0.out⟩
  case round =>
    obtain ⟨i, j, q, dk, os, rfl, rfl, hi, hj, hg, him, hjm, hsk, rfl, HI⟩ := hrel
    rcases Nat.lt_trichotomy i j with hij | hij | hij
    · have e1 : ¬ (i : Int) = (j : Int) := by omega
      have e2 : ((i : Int) != (j : Int)) = true := by simpa using e1
      have e3 : ¬ (j : Int) < (i : Int) := by omega
      go_wp2_with (go_at_call 107; fail)
      refine (HC.out q dk os hsk (m - i) (m + j - i) i (by omega) (by omega) _ _ _ (by first | omega | (rw [IntKind.wrap_i64]; omega)) (by first | omega | (simp only [IntKind.wrap_i64]; omega)) rfl).mono ?_
      rintro e w1 ⟨rfl, hp⟩
      have HP : Hid (SwpPost (sW w blk off q dk os) blk off dk (m - i) (m + j - i) i w1) := hp
      clear hp
      go_wp2
      go_roundg (i + (j - i))
      case measure => omega
      case rel =>
        obtain ⟨q2, d2, os2, rfl, hs2, hp2⟩ := HP.out
        rw [show m + j - i + i = m + j by omega] at hp2
        exact ⟨i, j - i, q + q2, d2, os ++ os2, rfl, by congr 1; omega, hi, by omega, by omega, him, by omega, hs2.1.trans hsk, sW_on w blk off q q2 dk d2 os os2 hblk hs2.1, HI.out.less hij hi hs2 hp2 hb⟩
    · subst hij
      go_wp2_with (go_at_call 107; fail)
      refine (HC.out q dk os hsk (m - i) m i (by omega) (by omega) _ _ _ (by first | omega | (rw [IntKind.wrap_i64]; omega)) rfl rfl).mono ?_
      rintro e w1 ⟨rfl, hp⟩
      have HP : Hid (SwpPost (sW w blk off q dk os) blk off dk (m - i) m i w1) := hp
      clear hp
      go_wp2
      go_end0
      obtain ⟨q2, d2, os2, rfl, hs2, hp2⟩ := HP.out
      have := HI.out.last hs2 hp2 hb
      exact ⟨rfl, ⟨q + q2, d2, os ++ os2, sW_on w blk off q q2 dk d2 os os2 hblk hs2.1, this.2, this.1⟩⟩
    · have e1 : ¬ (i : Int) = (j : Int) := by omega
      have e2 : ((i : Int) != (j : Int)) = true := by simpa using e1
      have e3 : (j : Int) < (i : Int) := by omega
      go_wp2_with (go_at_call 107; fail)
      refine (HC.out q dk os hsk (m - i) m j (by omega) (by omega) _ _ _ (by first | omega | (rw [IntKind.wrap_i64]; omega)) rfl rfl).mono ?_
      rintro e w1 ⟨rfl, hp⟩
      have HP : Hid (SwpPost (sW w blk off q dk os) blk off dk (m - i) m j w1) := hp
      clear hp
      go_wp2
      go_roundg (i - j + j)
      case measure => omega
      case rel =>
        obtain ⟨q2, d2, os2, rfl, hs2, hp2⟩ := HP.out
        exact ⟨i - j, j, q + q2, d2, os ++ os2, by congr 1; omega, rfl, by omega, hj, by omega, by omega, hjm, hs2.1.trans hsk, sW_on w blk off q q2 dk d2 os os2 hblk hs2.1, HI.out.more hij hj hs2 hp2 hb⟩
end Go.Proofs.YtdbpggncpkocaaaGreatDoor
