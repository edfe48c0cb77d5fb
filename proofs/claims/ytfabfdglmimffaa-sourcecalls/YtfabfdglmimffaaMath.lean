/-
  Plain mathematics of texts, lines and columns (no program): what the lines of a list of bytes are, and which column a byte has.
-/
import Derived.Lib.Bytealg
import Derived.Lib.IndexBytes
namespace Go.Proofs.Ytfabfdglmimffaa.M
open Go.Lib

/-- The lines of a list of bytes, each with its beginning: cur is what of the line has come. -/
def lns : Nat → List UInt8 → List UInt8 → List (Nat × List UInt8)
  | st, cur, [] => [(st, cur)]
  | st, cur, b :: l => if b = 10 then (st, cur) :: lns (st + cur.length + 1) [] l else lns st (cur ++ [b]) l

theorem ib_cons_ne {b : UInt8} (h : b ≠ 10) (l : List UInt8) : indexByte (b :: l) 10 = if indexByte l 10 = -1 then -1 else indexByte l 10 + 1 := by
  show (if b == 10 then 0 else if indexByte l 10 == -1 then -1 else indexByte l 10 + 1) = _
  simp [h]

theorem lns_none : ∀ (l : List UInt8) (st : Nat) (cur : List UInt8), indexByte l 10 = -1 → lns st cur l = [(st, cur ++ l)]
  | [], st, cur, _ => by simp [lns]
  | b :: l, st, cur, h => by
    by_cases hb : b = 10
    · subst hb; simp [indexByte] at h
    · rw [ib_cons_ne hb] at h
      have h' : indexByte l 10 = -1 := by
        have := indexByte_ge l 10
        split at h
        · assumption
        · omega
      rw [lns, if_neg hb, lns_none l st (cur ++ [b]) h']
      simp

theorem lns_some : ∀ (l : List UInt8) (st : Nat) (cur : List UInt8) (n : Nat), indexByte l 10 = n →
    n < l.length ∧ lns st cur l = (st, cur ++ l.take n) :: lns (st + cur.length + n + 1) [] (l.drop (n + 1))
  | [], st, cur, n, h => by
    have h' : (-1 : Int) = n := h
    omega
  | b :: l, st, cur, n, h => by
    by_cases hb : b = 10
    · subst hb
      have h0 : (0 : Int) = n := by simpa [indexByte] using h
      obtain rfl : n = 0 := by omega
      simp [lns]
    · rw [ib_cons_ne hb] at h
      have hge := indexByte_ge l 10
      split at h
      · omega
      · obtain ⟨m, rfl⟩ : ∃ m, n = m + 1 := ⟨n - 1, by omega⟩
        have ih := lns_some l st (cur ++ [b]) m (by omega)
        rw [lns, if_neg hb, ih.2]
        refine ⟨by simp; exact ih.1, ?_⟩
        simp
        congr 1
        omega

def mk (l : List UInt8) : ByteArray := ⟨l.toArray⟩
theorem mk_data' (l : List UInt8) : (mk l).data.toList = l := rfl
theorem mk_size (l : List UInt8) : (mk l).size = l.length := by rw [size_eq]; rfl

/-- The lines of a text from a place on. -/
def LN (s : ByteArray) (st : Nat) : List (Nat × ByteArray) := (lns st [] (s.data.toList.drop st)).map fun p => (p.1, mk p.2)

theorem LN_none (s : ByteArray) (st : Nat) (h : indexByte (s.extract st s.size).data.toList 10 = -1) : LN s st = [(st, s.extract st s.size)] := by
  rw [extract_to_end] at h
  have he : s.extract st s.size = mk (s.data.toList.drop st) := by
    rw [extract_eq, List.take_of_length_le (by rw [List.length_drop, size_eq]; omega)]; rfl
  rw [LN, lns_none _ _ _ h, he]
  simp

theorem LN_some (s : ByteArray) (st n : Nat) (h : indexByte (s.extract st s.size).data.toList 10 = (n : Int)) :
    st + n + 1 ≤ s.size ∧ LN s st = (st, s.extract st (st + n)) :: LN s (st + n + 1) := by
  rw [extract_to_end] at h
  obtain ⟨h1, h2⟩ := lns_some _ st [] n h
  have he : s.extract st (st + n) = mk ((s.data.toList.drop st).take n) := by
    rw [extract_eq, show st + n - st = n from by omega]; rfl
  have hl : (s.data.toList.drop st).length = s.size - st := by rw [List.length_drop, size_eq]
  refine ⟨by omega, ?_⟩
  rw [LN, h2, he, LN]
  simp only [List.map_cons, List.nil_append, List.drop_drop, List.length_nil, Nat.add_zero]
  congr 3
  

theorem lns_length : ∀ (l : List UInt8) (st : Nat) (cur : List UInt8), 1 ≤ (lns st cur l).length ∧ (lns st cur l).length ≤ l.length + 1
  | [], st, cur => by simp [lns]
  | b :: l, st, cur => by
    rw [lns]
    split
    · have := lns_length l (st + cur.length + 1) []
      simp; omega
    · have := lns_length l st (cur ++ [b])
      simp; omega

theorem LN_length (s : ByteArray) (st : Nat) : 1 ≤ (LN s st).length ∧ (LN s st).length ≤ s.size + 1 := by
  have := lns_length (s.data.toList.drop st) st []
  rw [LN, List.length_map]
  have hl : (s.data.toList.drop st).length = s.size - st := by rw [List.length_drop, size_eq]
  omega

theorem lns_size : ∀ (l : List UInt8) (st : Nat) (cur : List UInt8), ∀ p ∈ lns st cur l, p.2.length ≤ cur.length + l.length
  | [], st, cur, p, h => by simp [lns] at h; subst h; simp
  | b :: l, st, cur, p, h => by
    rw [lns] at h
    split at h
    · rcases List.mem_cons.1 h with rfl | h
      · simp
      · have := lns_size l _ _ p h; simp at this ⊢; omega
    · have := lns_size l _ _ p h; simp at this ⊢; omega

theorem LN_size (s : ByteArray) (st : Nat) (p : Nat × ByteArray) (h : p ∈ LN s st) : p.2.size ≤ s.size := by
  rw [LN, List.mem_map] at h
  obtain ⟨q, hq, rfl⟩ := h
  have := lns_size _ _ _ q hq
  rw [mk_size, size_eq s]
  simp only [List.length_nil, List.length_drop, Nat.zero_add] at this
  omega

theorem lns_start : ∀ (l : List UInt8) (st : Nat) (cur : List UInt8), ∀ p ∈ lns st cur l, p.1 + p.2.length ≤ st + cur.length + l.length
  | [], st, cur, p, h => by simp [lns] at h; subst h; simp
  | b :: l, st, cur, p, h => by
    rw [lns] at h
    split at h
    · rcases List.mem_cons.1 h with rfl | h
      · simp
      · have := lns_start l _ _ p h; simp at this ⊢; omega
    · have := lns_start l _ _ p h; simp at this ⊢; omega

theorem LN_start (s : ByteArray) (st : Nat) (p : Nat × ByteArray) (hst : st ≤ s.size) (h : p ∈ LN s st) : p.1 + p.2.size ≤ s.size := by
  rw [LN, List.mem_map] at h
  obtain ⟨q, hq, rfl⟩ := h
  have := lns_start _ _ _ q hq
  rw [mk_size]
  rw [size_eq s] at hst ⊢
  simp only [List.length_nil, List.length_drop, Nat.add_zero] at this
  omega

/-- The column behind a byte. -/
def bh (b : UInt8) (c : Int) : Int := if b = 9 then c + 8 - (c - 1) % 8 else c + 1
/-- The column behind a list of bytes of one line. -/
def colAt (l : List UInt8) : Int := l.foldl (fun c b => bh b c) 1

theorem colAt_snoc (l : List UInt8) (b : UInt8) : colAt (l ++ [b]) = bh b (colAt l) := by simp [colAt]
theorem colAt_nil : colAt [] = 1 := rfl

theorem bh_lt (b : UInt8) (c : Int) : c < bh b c ∧ bh b c ≤ c + 8 := by
  unfold bh; split <;> omega

theorem colAt_bd : ∀ (n : Nat) (l : List UInt8), l.length = n → (n : Int) + 1 ≤ colAt l ∧ colAt l ≤ 8 * n + 1
  | 0, l, h => by
    obtain rfl : l = [] := List.length_eq_zero_iff.1 h
    simp [colAt]
  | n + 1, l, h => by
    have hne : l ≠ [] := by rintro rfl; simp at h
    obtain ⟨l', b, rfl⟩ : ∃ l' b, l = l' ++ [b] := ⟨l.dropLast, l.getLast hne, (List.dropLast_concat_getLast hne).symm⟩
    have ih := colAt_bd n l' (by simpa using h)
    have := bh_lt b (colAt l')
    rw [colAt_snoc]
    omega

theorem take_snoc (s : ByteArray) (k : Nat) (h : k < s.size) : s.data.toList.take (k + 1) = s.data.toList.take k ++ [s[k]] := by
  rw [List.take_succ_eq_append_getElem (by rw [← size_eq]; exact h)]; rfl

/-- What has come when k rounds are over. -/
def upto {α : Type} (f : Nat → α) (k : Nat) : List α := (List.range k).map f
theorem upto_succ {α : Type} (f : Nat → α) (k : Nat) : upto f (k + 1) = upto f k ++ [f k] := by simp [upto, List.range_succ]
theorem upto_length {α : Type} (f : Nat → α) (k : Nat) : (upto f k).length = k := by simp [upto]
theorem upto_prefix {α : Type} (f : Nat → α) {k n : Nat} (h : k ≤ n) : upto f k <+: upto f n := by
  obtain ⟨d, rfl⟩ := Nat.exists_eq_add_of_le h
  exact ⟨(List.range d).map (fun i => f (k + i)), by simp [upto, List.range_add, Function.comp_def]⟩

/-- The columns of a line: how many bytes are ahead, the column. -/
def colF (s : ByteArray) (k : Nat) : Nat × Int := (k, colAt (s.data.toList.take k))
def CL (s : ByteArray) : List (Nat × Int) := upto (colF s) (s.size + 1)

theorem colF_mem (s : ByteArray) (j : Nat) (h : j ≤ s.size) : colF s j ∈ CL s := by
  unfold CL upto
  exact List.mem_map.2 ⟨j, List.mem_range.2 (by omega), rfl⟩

theorem colF_step (s : ByteArray) (k : Nat) (h : k < s.size) : colAt (s.data.toList.take (k + 1)) = bh s[k] (colAt (s.data.toList.take k)) := by
  rw [take_snoc s k h, colAt_snoc]

theorem colF_bd (s : ByteArray) (k : Nat) (h : k ≤ s.size) : (k : Int) + 1 ≤ colAt (s.data.toList.take k) ∧ colAt (s.data.toList.take k) ≤ 8 * k + 1 :=
  colAt_bd k _ (by rw [List.length_take, ← size_eq]; omega)

end Go.Proofs.Ytfabfdglmimffaa.M
