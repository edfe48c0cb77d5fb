/-
  Plain mathematics: a text's lines, joined by a byte 10, are the text; no line has a byte 10.
-/
import Derived.Test.YtfabfdglmimffaaMath
namespace Go.Proofs.Ytfabfdglmimffaa.M
open Go.Lib

def tailJ (r : List (List UInt8)) : List UInt8 := r.flatMap fun y => 10 :: y
def joinL : List (List UInt8) → List UInt8
  | [] => []
  | x :: r => x ++ tailJ r

theorem lns_join : ∀ (l : List UInt8) (st : Nat) (cur : List UInt8), joinL ((lns st cur l).map (·.2)) = cur ++ l
  | [], st, cur => by simp [lns, joinL, tailJ]
  | b :: l, st, cur => by
    by_cases hb : b = 10
    · subst hb
      have ih := lns_join l (st + cur.length + 1) []
      rw [lns, if_pos rfl]
      cases h : lns (st + cur.length + 1) [] l with
      | nil => have := (lns_length l (st + cur.length + 1) []).1; rw [h] at this; simp at this
      | cons p r =>
        rw [h] at ih
        simp only [List.map_cons, joinL, List.nil_append] at ih
        simp only [List.map_cons, joinL, tailJ, List.flatMap_cons]
        rw [show List.flatMap (fun y => 10 :: y) (r.map (·.2)) = tailJ (r.map (·.2)) from rfl, List.cons_append, ih]
    · rw [lns, if_neg hb, lns_join l st (cur ++ [b])]
      simp

theorem lns_no10 : ∀ (l : List UInt8) (st : Nat) (cur : List UInt8), (∀ c ∈ cur, c ≠ 10) → ∀ p ∈ lns st cur l, ∀ c ∈ p.2, c ≠ 10
  | [], st, cur, hc, p, hp => by
    simp [lns] at hp; subst hp; exact hc
  | b :: l, st, cur, hc, p, hp => by
    rw [lns] at hp
    split at hp
    · rcases List.mem_cons.1 hp with rfl | hp
      · exact hc
      · exact lns_no10 l _ [] (by simp) p hp
    · rename_i hb
      exact lns_no10 l _ _ (by
        intro c h
        rcases List.mem_append.1 h with h | h
        · exact hc c h
        · simp at h; subst h; exact hb) p hp

def bytesOf (x : Nat × ByteArray) : List UInt8 := x.2.data.toList
/-- The first k lines, joined. -/
def J (s : ByteArray) (k : Nat) : List UInt8 := joinL (((LN s 0).take k).map bytesOf)

theorem J_all (s : ByteArray) : J s (LN s 0).length = s.data.toList := by
  have h := lns_join s.data.toList 0 []
  rw [J, List.take_length, LN, List.map_map]
  rw [List.nil_append] at h
  exact h

theorem J_zero (s : ByteArray) : J s 0 = [] := rfl

theorem joinL_snoc (x : List UInt8) (r : List (List UInt8)) (y : List UInt8) : joinL ((x :: r) ++ [y]) = joinL (x :: r) ++ (10 :: y) := by
  simp [joinL, tailJ]

theorem J_first (s : ByteArray) (h : 0 < (LN s 0).length) : J s 1 = (LN s 0)[0].2.data.toList := by
  unfold J
  generalize LN s 0 = L at h ⊢
  cases L with
  | nil => simp at h
  | cons p r => simp [joinL, tailJ, bytesOf]

theorem J_succ (s : ByteArray) (k : Nat) (h0 : 0 < k) (h : k < (LN s 0).length) : J s (k + 1) = J s k ++ [10] ++ (LN s 0)[k].2.data.toList := by
  unfold J
  rw [List.take_succ_eq_append_getElem h, List.map_append]
  cases hl : (LN s 0).take k with
  | nil =>
    have := List.length_take (i := k) (l := LN s 0)
    rw [hl] at this
    simp at this
    omega
  | cons p r =>
    simp only [List.map_cons, List.map_nil]
    have := joinL_snoc (bytesOf p) (r.map bytesOf) (bytesOf (LN s 0)[k])
    simp only [List.cons_append] at this ⊢
    rw [this]
    simp [bytesOf]

theorem J_step (s : ByteArray) (k : Nat) (h : k < (LN s 0).length) : J s (k + 1) = (if k = 0 then [] else J s k ++ [10]) ++ (LN s 0)[k].2.data.toList := by
  by_cases h0 : k = 0
  · subst h0
    simp only [if_true, List.nil_append]
    exact J_first s h
  · rw [if_neg h0]
    exact J_succ s k (by omega) h

theorem J_le : ∀ (d : Nat) (s : ByteArray) (k : Nat), k + d = (LN s 0).length → (J s k).length ≤ s.size
  | 0, s, k, h => by
    obtain rfl : k = (LN s 0).length := by omega
    rw [J_all, size_eq]; exact Nat.le_refl _
  | d + 1, s, k, h => by
    have ih := J_le d s (k + 1) (by omega)
    rw [J_step s k (by omega)] at ih
    by_cases h0 : k = 0
    · subst h0; rw [J_zero]; simp
    · rw [if_neg h0] at ih
      simp at ih
      omega

theorem line_no10 (s : ByteArray) (k : Nat) (h : k < (LN s 0).length) (j : Nat) (hj : j < (LN s 0)[k].2.size) : (LN s 0)[k].2[j] ≠ 10 := by
  have hm : (LN s 0)[k] ∈ LN s 0 := List.getElem_mem h
  generalize (LN s 0)[k] = p at *
  rw [LN, List.mem_map] at hm
  obtain ⟨q, hq, rfl⟩ := hm
  have := lns_no10 _ _ _ (by simp) q hq
  apply this
  exact List.getElem_mem (l := q.2) (by rw [mk_size] at hj; exact hj)

end Go.Proofs.Ytfabfdglmimffaa.M
