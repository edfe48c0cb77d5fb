/-
  What lex.All answers, said of memory.
-/
import Derived.Deep.RegionWith
import Derived.Test.YtndpebkiiemfpaaGreatDoorTok5
import Derived.Test.YtndpebkiiemfpaaGreatDoorTok6
import Derived.Test.YtndpebkiiemfpaaGreatDoorTok7
import Derived.Test.YtndpebkiiemfpaaGreatDoorTokD
import Derived.Test.YtndpebkiiemfpaaGreatDoorResv
import Derived.Test.YtndpebkiiemfpaaGreatDoorCheck
namespace Go.Proofs.YtndpebkiiemfpaaGreatDoor
open Go.RowKit Go.Shelf Go.Maps
set_option linter.unusedVariables false

theorem token_c (k : Nat) (s : ByteArray) (hs : s.size ≤ 70000) (h1 : 1 ≤ s.size) (w : World) (hG : GOK w) :
    Calls Tryz.prog 34 #[.int .i64 (k : Int), .string s] w fun e W' => e = .returned (tokV (M.mkTok k s.data.toList).kind (bs (M.mkTok k s.data.toList).text) (M.mkTok k s.data.toList).num 0 0 0 false) ∧ Below w.heap.size w W' := by
  by_cases h5 : k = 5
  · subst h5; exact token_5 s hs h1 w hG
  by_cases h6 : k = 6
  · subst h6; exact token_6 s hs h1 w hG
  by_cases h7 : k = 7
  · subst h7; exact token_7 s hs h1 w hG
  exact token_d k h5 h6 h7 s hs h1 w hG

/-- A token's cells. -/
def tkC (t : M.Tk) : List Value := [.int .i64 (t.t.kind : Int), .string (bs t.t.text), .int .i64 (t.t.num : Int), .int .i64 (t.pos : Int), .int .i64 (t.line : Int), .int .i64 (t.col : Int), .bool t.first]
def tksC (ts : List M.Tk) : List Value := ts.flatMap tkC
theorem tksC_len (ts : List M.Tk) : (tksC ts).length = ts.length * 7 := by
  induction ts with
  | nil => rfl
  | cons t ts ih => simp only [tksC, List.flatMap_cons, List.length_append, List.length_cons] at *; rw [ih]; simp [tkC]; omega
theorem tksC_snoc (ts : List M.Tk) (t : M.Tk) : tksC (ts ++ [t]) = tksC ts ++ tkC t := by simp [tksC]

/-- Where the going through stands: the tokens so far, the place, line, column and the last token's line. -/
def ScanAt (l : List UInt8) (pre : List M.Tk) (a : Nat) (p : Nat × Nat) (last : Nat) : Prop :=
  ∃ f, (l.drop a).length < f ∧ a ≤ l.length ∧ pre.length ≤ a ∧ M.scanAll l = (match M.scan f a p last (l.drop a) with | .inl e => .inl e | .inr ts => .inr (pre ++ ts))
theorem scanAt_start (l : List UInt8) : ScanAt l [] 0 (1, 1) 0 := by
  refine ⟨l.length + 1, by simp, Nat.zero_le _, Nat.le_refl _, ?_⟩
  rw [List.drop_zero]
  unfold M.scanAll
  cases M.scan (l.length + 1) 0 (1, 1) 0 l <;> simp
theorem scanAt_end (l : List UInt8) (pre : List M.Tk) (a : Nat) (p : Nat × Nat) (last : Nat) (h : ScanAt l pre a p last) (he : a + M.idleAll (l.drop a) = l.length) : M.scanAll l = .inr pre := by
  obtain ⟨f, hf, ha, hp, h⟩ := h
  obtain ⟨f', rfl⟩ : ∃ f', f = f' + 1 := ⟨f - 1, by omega⟩
  rw [h, M.scan, if_pos (by rw [List.drop_drop, he, List.drop_length]; rfl)]
  simp
theorem scanAt_bad (l : List UInt8) (pre : List M.Tk) (a : Nat) (p : Nat × Nat) (last : Nat) (h : ScanAt l pre a p last) (he : a + M.idleAll (l.drop a) < l.length) (hn : (M.lex1 (l.drop (a + M.idleAll (l.drop a)))).2 = 0) : M.scanAll l = .inl (a + M.idleAll (l.drop a)) := by
  obtain ⟨f, hf, ha, hp, h⟩ := h
  obtain ⟨f', rfl⟩ : ∃ f', f = f' + 1 := ⟨f - 1, by omega⟩
  have hne : ¬ ((l.drop a).drop (M.idleAll (l.drop a))).isEmpty = true := by
    rw [List.drop_drop, List.isEmpty_iff]
    intro h1
    have := congrArg List.length h1
    rw [List.length_drop] at this
    simp at this; omega
  rw [h, M.scan, if_neg hne, List.drop_drop, if_pos hn]
/-- The token that comes next. -/
def nextTk (l : List UInt8) (a : Nat) (p : Nat × Nat) (last : Nat) : M.Tk :=
  ⟨M.resv (M.mkTok ((M.lex1 (l.drop (a + M.idleAll (l.drop a)))).1 + 1) ((l.drop (a + M.idleAll (l.drop a))).take (M.lex1 (l.drop (a + M.idleAll (l.drop a)))).2)), a + M.idleAll (l.drop a), (M.mv p ((l.drop a).take (M.idleAll (l.drop a)))).1, (M.mv p ((l.drop a).take (M.idleAll (l.drop a)))).2, decide ((M.mv p ((l.drop a).take (M.idleAll (l.drop a)))).1 ≠ last)⟩
theorem scanAt_next (l : List UInt8) (pre : List M.Tk) (a : Nat) (p : Nat × Nat) (last : Nat) (h : ScanAt l pre a p last) (he : a + M.idleAll (l.drop a) < l.length) (hn : (M.lex1 (l.drop (a + M.idleAll (l.drop a)))).2 ≠ 0) :
    ScanAt l (pre ++ [nextTk l a p last]) (a + M.idleAll (l.drop a) + (M.lex1 (l.drop (a + M.idleAll (l.drop a)))).2)
      (M.mv (M.mv p ((l.drop a).take (M.idleAll (l.drop a)))) ((l.drop (a + M.idleAll (l.drop a))).take (M.lex1 (l.drop (a + M.idleAll (l.drop a)))).2)) (nextTk l a p last).line := by
  obtain ⟨f, hf, ha, hp, h⟩ := h
  obtain ⟨f', rfl⟩ : ∃ f', f = f' + 1 := ⟨f - 1, by omega⟩
  have hne : ¬ ((l.drop a).drop (M.idleAll (l.drop a))).isEmpty = true := by
    rw [List.drop_drop, List.isEmpty_iff]
    intro h1
    have := congrArg List.length h1
    rw [List.length_drop] at this
    simp at this; omega
  have hle := M.lex1_le (l.drop (a + M.idleAll (l.drop a)))
  rw [List.length_drop] at hf hle
  refine ⟨f', by rw [List.length_drop]; omega, by omega, by simp; omega, ?_⟩
  have hmv : M.mv (M.mv p ((l.drop a).take (M.idleAll (l.drop a)))) ((l.drop (a + M.idleAll (l.drop a))).take (M.lex1 (l.drop (a + M.idleAll (l.drop a)))).2) = M.mv p ((l.drop a).take (M.idleAll (l.drop a) + (M.lex1 (l.drop (a + M.idleAll (l.drop a)))).2)) := by
    unfold M.mv
    rw [← List.foldl_append, List.take_add, List.drop_drop]
  rw [h, M.scan, if_neg hne, List.drop_drop, if_neg hn, hmv, List.drop_drop, Nat.add_assoc a]
  unfold nextTk
  cases M.scan f' (a + (M.idleAll (l.drop a) + (M.lex1 (l.drop (a + M.idleAll (l.drop a)))).2)) (M.mv p ((l.drop a).take (M.idleAll (l.drop a) + (M.lex1 (l.drop (a + M.idleAll (l.drop a)))).2))) (M.mv p ((l.drop a).take (M.idleAll (l.drop a)))).1 (l.drop (a + (M.idleAll (l.drop a) + (M.lex1 (l.drop (a + M.idleAll (l.drop a)))).2))) <;> simp

theorem mv_line : ∀ (l : List UInt8) (p : Nat × Nat), (M.mv p l).1 ≤ p.1 + l.length ∧ p.1 ≤ (M.mv p l).1 ∧ (1 ≤ p.2 → 1 ≤ (M.mv p l).2) ∧ (M.mv p l).2 ≤ p.2 + 8 * l.length + 1
  | [], p => by simp [M.mv]
  | b :: l, p => by
    have ih := mv_line l (M.mv1 p b)
    have he : M.mv p (b :: l) = M.mv (M.mv1 p b) l := rfl
    rw [he]
    have h1 : (M.mv1 p b).1 ≤ p.1 + 1 ∧ p.1 ≤ (M.mv1 p b).1 ∧ (1 ≤ p.2 → 1 ≤ (M.mv1 p b).2) ∧ ((M.mv1 p b).2 ≤ p.2 + 8) := by
      unfold M.mv1
      split
      · simp; 
      · split
        · simp; omega
        · simp
    simp only [List.length_cons]
    omega

theorem mv_col : ∀ (l : List UInt8) (p : Nat × Nat), 1 ≤ p.2 → (M.mv p l).2 ≤ p.2 + 8 * l.length
  | [], p, _ => by simp [M.mv]
  | b :: l, p, h => by
    have h1 : 1 ≤ (M.mv1 p b).2 ∧ ((M.mv1 p b).2 ≤ p.2 + 8) := by
      unfold M.mv1
      split
      · simp
      · split
        · simp; omega
        · simp
    have ih := mv_col l (M.mv1 p b) h1.1
    have he : M.mv p (b :: l) = M.mv (M.mv1 p b) l := rfl
    rw [he]
    simp only [List.length_cons]
    omega
theorem fns_belowB {A B : World} {g P : Nat} {Fs : List Nat} (h : FnsAt A g Fs) (hg : g < P) (hb : Below P A B) : FnsAt B g Fs :=
  fun j F hj => (hb.cell (p := ⟨g, j, none⟩) hg).trans (h j F hj)
theorem set_belowB {w w' : World} {b P : Nat} {L : List (List UInt8)} (h : SetAt w b L) (hP : b < P) (hb : Below P w w') : SetAt w' b L := by
  obtain ⟨n, hn, es, clock, h1, h2⟩ := h
  exact ⟨n, hn, es, clock, by rw [hb.block b hP]; exact h1, h2⟩
theorem blk_belowB {W W' : World} {B P : Nat} {vs : Array Value} {T : TypeId} (h : Blk W B vs T) (hP : B < P) (hb : Below P W W') : Blk W' B vs T := by
  unfold Blk; rw [hb.block B hP]; exact h
theorem Blk.set {W : World} {B : Nat} {vs : Array Value} {T : TypeId} (h : Blk W B vs T) (j : Nat) (u : Value) : Blk (W.setCell ⟨B, j, none⟩ u) B (vs.setIfInBounds j u) T := by
  obtain ⟨hlt, hk⟩ := Array.getElem?_eq_some_iff.1 h
  show (W.heap.modify B _)[B]? = _
  rw [Array.getElem?_eq_getElem (by rw [Array.size_modify]; exact hlt), Array.getElem_modify_self, hk]
  rfl
theorem Blk.set3 {W : World} {B : Nat} {v0 v1 v2 : Value} {T : TypeId} (h : Blk W B #[v0, v1, v2] T) (u0 u1 u2 : Value) : Blk (((W.setCell ⟨B, 0, none⟩ u0).setCell ⟨B, 1, none⟩ u1).setCell ⟨B, 2, none⟩ u2) B #[u0, u1, u2] T :=
  ((h.set 0 u0).set 1 u1).set 2 u2
theorem res_eq (t : M.T0) : M.resv t = ⟨resK t.kind t.text, t.text, t.num⟩ := by
  unfold M.resv resK
  split
  · rfl
  · split
    · rfl
    · rfl

def faultV (e a : Int) : Value := .agg #[.int .i64 e, .int .i64 a]
/-- What comes of a text that may be. -/
def AllPost (s : ByteArray) (w W' : World) (v f : Value) : Prop :=
  match M.scanAll s.data.toList with
  | .inl a => v = .slice none 0 0 ∧ f = faultV 4 (a : Int)
  | .inr ts => f = faultV 0 0 ∧ ts.length ≤ s.size ∧ W'.ownsRow w.heap.size 39 7 v ts.length (tksC ts)
theorem owns_mono {W : World} {b b' : Nat} {e : TypeId} {z : Nat} {v : Value} {k : Nat} {xs : List Value} (h : W.ownsRow b e z v k xs) (hb : b' ≤ b) : W.ownsRow b' e z v k xs := by
  rcases h with ⟨hl, h | ⟨g, cap, cur, h1, h2, h3⟩⟩
  · exact ⟨hl, .inl h⟩
  · exact ⟨hl, .inr ⟨g, cap, cur, h1, Nat.le_trans hb h2, h3⟩⟩
theorem byCls_fst (c : Nat) (l : List UInt8) : (M.byCls c l).1 ≤ 7 := by
  unfold M.byCls M.nz
  repeat' split
  all_goals simp
theorem lex1_fst (l : List UInt8) : (M.lex1 l).1 ≤ 7 := by
  match l with
  | [] => rw [M.lex1_nil]; simp
  | b :: l => rw [M.lex1_cons]; exact byCls_fst _ _
theorem owns_set_ne {w : World} {base : Nat} {e : TypeId} {size : Nat} {v : Value} {n : Nat} {xs : List Value} (h : w.ownsRow base e size v n xs) {a : Addr} (hne : ∀ g, v.ownBlock = some g → g ≠ a.block) (u : Value) : (w.setCell a u).ownsRow base e size v n xs := by
  rcases h with ⟨hl, h | ⟨g, cap, cur, h1, h2, h3, h4⟩⟩
  · exact ⟨hl, .inl h⟩
  · refine ⟨hl, .inr ⟨g, cap, cur, h1, h2, ?_, h4⟩⟩
    rw [Below.heap_setCell w a u g (hne g (by rw [h1]; rfl))]
    exact h3
theorem cells_new (W : World) (vs : List Value) (T : TypeId) : ∀ (j : Nat) (u : Value), vs[j]? = some u → (W.alloc (.cells vs.toArray T)).cell? ((⟨W.heap.size, 0, none⟩ : Addr).add j) = some u := by
  intro j u hj
  have := (Blk.new W vs.toArray T).cell j u (by simpa using hj)
  have he : (⟨W.heap.size, 0, none⟩ : Addr).add j = ⟨W.heap.size, j, none⟩ := by
    by_cases h : j = 0
    · subst h; rfl
    · simp [Addr.add, h]
  rw [he]
  exact this
theorem Tryz.infoTok : (Tryz.prog.info? 39).map (fun i => (i.zero, i.size, i.bytes)) = some (some (.agg #[.int .i64 0, .string ⟨#[]⟩, .int .i64 0, .int .i64 0, .int .i64 0, .int .i64 0, .bool false]), 7, 64) := by kernel_rfl
theorem next_eq (l : List UInt8) (a i j l2 c2 last k0 n : Nat) (p : Nat × Nat) (hi : M.idleAll (l.drop a) = i) (hj : a + i = j) (hm : M.mv p ((l.drop a).take i) = (l2, c2)) (hk : M.lex1 (l.drop j) = (k0, n)) :
    nextTk l a p last = ⟨⟨resK (M.mkTok (k0 + 1) ((l.drop j).take n)).kind (M.mkTok (k0 + 1) ((l.drop j).take n)).text, (M.mkTok (k0 + 1) ((l.drop j).take n)).text, (M.mkTok (k0 + 1) ((l.drop j).take n)).num⟩, j, l2, c2, decide (l2 ≠ last)⟩ := by
  unfold nextTk
  rw [hi, hj, hm, hk, res_eq]
theorem chs_text : ∀ (f : Nat) (l : List UInt8) (r : Nat × List UInt8), M.chs f l = some r → r.2.length ≤ l.length
  | 0, l, r, h => by simp [M.chs] at h
  | f + 1, l, r, h => by
    unfold M.chs at h
    split at h
    · cases h; simp
    · split at h
      · cases hc : M.chs f (l.drop (M.noChar l)) with
        | none => rw [hc] at h; simp at h
        | some r' =>
          rw [hc] at h
          simp only [Option.map_some, Option.some.injEq] at h
          subst h
          have := chs_text f _ _ hc
          rw [List.length_drop] at this
          simp only; omega
      · split at h
        · simp at h
        · rename_i h3
          cases hc : M.chs f (l.drop (M.character 34 l).1) with
          | none => rw [hc] at h; simp at h
          | some r' =>
            rw [hc] at h
            simp only [Option.map_some, Option.some.injEq] at h
            subst h
            have := chs_text f _ _ hc
            have := M.character_le 34 l
            rw [List.length_drop] at *
            simp only [List.length_cons]; omega
theorem mkTok_text (k : Nat) (l : List UInt8) : (M.mkTok k l).text.length ≤ l.length := by
  unfold M.mkTok
  repeat' split
  · simp
  · simp
  · simp only
    by_cases h0 : (M.chars l).1 = 0
    · unfold M.chars at h0 ⊢
      split
      · rename_i h1
        rw [if_pos h1] at h0
        split
        · rename_i r hr; rw [hr] at h0; simp at h0
        · simp
      · simp
    · obtain ⟨h1, r, hr, he⟩ := M.chars_some l h0
      rw [he]
      have := chs_text _ _ _ hr
      rw [List.length_drop] at this
      simp only; omega
  · simp

end Go.Proofs.YtndpebkiiemfpaaGreatDoor
