/-
  Plain mathematics of layout (no program): what comes of tokens where no block is closed.
  Plain mathematics of layout: what a turn that is one looks like; the run, step by step.
  Plain mathematics of the laws on layout: how what comes is shown; braces in pairs, step by step.
-/
import Derived.Test.YtldpldcfgkceeaaGreatDoorQM
namespace Go.Proofs.YtldpldcfgkceeaaGreatDoor.L

inductive St where
  | opening (n : Nat)
  | lining (n : Nat)
  | plain
deriving DecidableEq
/-- How a stream stands: the tokens that are left, the mark, the blocks (the innermost one last), how many braces are owed. -/
structure S where
  toks : List M.Tk
  st : St
  blocks : List Nat
  owed : Nat
/-- What comes. -/
structure Lx where
  t : M.Tk
  imp : Bool
deriving DecidableEq
def isMark (t : M.Tk) (x : List UInt8) : Bool := decide (t.t.kind = 8) && decide (t.t.text = x)
def opens (t : M.Tk) : Bool := decide (t.t.kind = 9) && (decide (t.t.text = [108, 101, 116]) || decide (t.t.text = [119, 104, 101, 114, 101]) || decide (t.t.text = [100, 111]) || decide (t.t.text = [111, 102]))
def ahead : List M.Tk → Bool → St
  | [], b => if b = true then .opening 0 else .plain
  | t :: _, b => if b = true ∧ isMark t [123] = false then .opening t.col else if t.first = true then .lining t.col else .plain
def col (bs : List Nat) : Nat := bs.getLast?.getD 0
def place (e : Nat) : List M.Tk → Nat
  | [] => e
  | t :: _ => t.pos
def impl (e : Nat) (l : List M.Tk) (x : List UInt8) : Lx := ⟨⟨⟨8, x, 0⟩, place e l, 0, 0, false⟩, true⟩
def zeroLx : Lx := ⟨⟨⟨0, [], 0⟩, 0, 0, 0, false⟩, false⟩
structure Turn where
  lx : Lx
  err : Nat
  st : Option St
  begins : Bool
  column : Nat
  ends : Bool
  owed : Int
def stop (e : Nat) : Turn := ⟨zeroLx, e, none, false, 0, false, 0⟩
def plainNext (e : Nat) (l : List M.Tk) (bs : List Nat) : Turn :=
  match l with
  | [] => if bs = [] then stop 11 else if col bs = 0 then stop 5 else ⟨impl e [] [125], 0, some .plain, false, 0, true, 0⟩
  | t :: l =>
    if isMark t [123] = true then ⟨⟨t, false⟩, 0, some (ahead l (opens t)), true, 0, false, 0⟩
    else if isMark t [125] = true then (if bs = [] ∨ 0 < col bs then stop 5 else ⟨⟨t, false⟩, 0, some (ahead l (opens t)), false, 0, true, 0⟩)
    else ⟨⟨t, false⟩, 0, some (ahead l (opens t)), false, 0, false, 0⟩
def openNext (e n : Nat) (l : List M.Tk) (bs : List Nat) : Turn :=
  if col bs < n then ⟨impl e l [123], 0, some .plain, true, n, false, 0⟩ else ⟨impl e l [123], 0, some (.lining n), false, 0, false, 1⟩
def lineNext (e n : Nat) (l : List M.Tk) (bs : List Nat) : Turn :=
  if 0 < col bs ∧ col bs = n then ⟨impl e l [59], 0, some .plain, false, 0, false, 0⟩
  else if 0 < col bs ∧ n < col bs then ⟨impl e l [125], 0, some (.lining n), false, 0, true, 0⟩
  else plainNext e l bs
def next (e : Nat) (st : St) (l : List M.Tk) (bs : List Nat) : Turn :=
  match st with
  | .opening n => openNext e n l bs
  | .lining n => lineNext e n l bs
  | .plain => plainNext e l bs
def coming (e : Nat) (s : S) : Turn := if 0 < s.owed then ⟨impl e s.toks [125], 0, some s.st, false, 0, false, -1⟩ else next e s.st s.toks s.blocks
def follow (s : S) (t : Turn) : S :=
  ⟨if t.lx.imp = true then s.toks else s.toks.drop 1, t.st.getD .plain, if t.begins = true then s.blocks ++ [t.column] else if t.ends = true then s.blocks.dropLast else s.blocks, ((s.owed : Int) + t.owed).toNat⟩
def new (l : List M.Tk) : S := ⟨l, ahead l true, [], 0⟩
def run (e : Nat) : Nat → S → Sum Nat (List Lx)
  | 0, _ => .inl 0
  | f + 1, s => if (coming e s).err = 11 then .inr [] else if (coming e s).err = 5 then .inl (place e s.toks)
    else match run e f (follow s (coming e s)) with
      | .inl a => .inl a
      | .inr xs => .inr ((coming e s).lx :: xs)
def wt : St → Nat
  | .opening _ => 3
  | .lining _ => 1
  | .plain => 0
def mu (s : S) : Nat := 5 * s.toks.length + s.blocks.length + s.owed + wt s.st
def all (l : List M.Tk) (e : Nat) : Sum Nat (List Lx) := run e (5 * l.length + 4) (new l)

theorem wt_le (s : St) : wt s ≤ 3 := by cases s <;> simp [wt]
theorem col_nil : col [] = 0 := rfl
theorem col_snoc (bs : List Nat) (n : Nat) : col (bs ++ [n]) = n := by simp [col]
theorem col_pos {bs : List Nat} (h : 0 < col bs) : bs ≠ [] := by rintro rfl; simp [col] at h
theorem snoc {bs : List Nat} (h : bs ≠ []) : bs = bs.dropLast ++ [col bs] := by
  unfold col
  rw [List.getLast?_eq_some_getLast h, Option.getD_some, List.dropLast_concat_getLast h]
theorem ne_len {bs : List Nat} (h : bs ≠ []) : 0 < bs.length := List.length_pos_iff.2 h

/-- The errors that a turn may have. -/
theorem plain_err (e : Nat) (l : List M.Tk) (bs : List Nat) : (plainNext e l bs).err = 0 ∨ (plainNext e l bs).err = 5 ∨ (plainNext e l bs).err = 11 := by
  unfold plainNext stop
  repeat' split
  all_goals simp
theorem coming_err (e : Nat) (s : S) : (coming e s).err = 0 ∨ (coming e s).err = 5 ∨ (coming e s).err = 11 := by
  unfold coming
  split
  · simp
  · unfold next
    split
    · unfold openNext; split <;> simp
    · unfold lineNext
      split
      · simp
      · split
        · simp
        · exact plain_err _ _ _
    · exact plain_err _ _ _
/-- A turn that is one: what it does to the braces that are open, to the tokens, to the measure. -/
def openOf (s : S) : List Bool := s.blocks.map (fun n => decide (0 < n)) ++ List.replicate s.owed true
def brStep (o : Option (List Bool)) (x : Lx) : Option (List Bool) :=
  o.bind fun o => if x.t.t.kind ≠ 8 then some o else if x.t.t.text = [123] then some (o ++ [x.imp]) else if x.t.t.text = [125] then (if o = [] ∨ o.getLast? ≠ some x.imp then none else some o.dropLast) else some o
theorem br_open (o : List Bool) (x : Lx) (h : isMark x.t [123] = true) : brStep (some o) x = some (o ++ [x.imp]) := by
  simp only [isMark, Bool.and_eq_true, decide_eq_true_eq] at h
  simp [brStep, h.1, h.2]
theorem br_shut (o : List Bool) (x : Lx) (h : isMark x.t [125] = true) : brStep (some (o ++ [x.imp])) x = some o := by
  simp only [isMark, Bool.and_eq_true, decide_eq_true_eq] at h
  simp [brStep, h.1, h.2]
theorem br_else (o : List Bool) (x : Lx) (h : isMark x.t [123] = false) (h' : isMark x.t [125] = false) : brStep (some o) x = some o := by
  unfold brStep
  simp only [Option.bind_some]
  by_cases hk : x.t.t.kind = 8
  · simp [isMark, hk] at h h'
    rw [if_neg (by simp [hk]), if_neg h, if_neg h']
  · rw [if_pos hk]
theorem openOf_push (s : S) (n : Nat) (st : St) (l : List M.Tk) (h : s.owed = 0) : openOf ⟨l, st, s.blocks ++ [n], 0⟩ = openOf s ++ [decide (0 < n)] := by simp [openOf, h]
theorem openOf_pop (s : S) (h : s.owed = 0) (hb : s.blocks ≠ []) (st : St) (l : List M.Tk) : openOf s = openOf ⟨l, st, s.blocks.dropLast, 0⟩ ++ [decide (0 < col s.blocks)] := by
  unfold openOf
  rw [h]
  simp only [List.replicate_zero, List.append_nil]
  conv => lhs; rw [snoc hb]
  simp

def Good (s : S) (t : Turn) : Prop :=
  t.err = 0 → brStep (some (openOf s)) t.lx = some (openOf (follow s t)) ∧ mu (follow s t) < mu s ∧ (if t.lx.imp = true then True else ∃ l, s.toks = t.lx.t :: l)
theorem good_plain (e : Nat) (s : S) (h : s.owed = 0) : Good s (plainNext e s.toks s.blocks) := by
  intro h0
  unfold plainNext at h0 ⊢
  split
  · rename_i ht
    rw [ht] at h0
    simp only at h0
    split
    · rename_i h1; rw [if_pos h1] at h0; simp [stop] at h0
    · rename_i h1
      rw [if_neg h1] at h0
      split
      · rename_i h2; rw [if_pos h2] at h0; simp [stop] at h0
      · rename_i h2
        refine ⟨?_, ?_, trivial⟩
        · have := openOf_pop s h h1 .plain s.toks
          rw [this, show decide (0 < col s.blocks) = (impl e [] [125]).imp from decide_eq_true (by omega), br_shut _ _ rfl]
          simp [follow, h, impl]
        · have := ne_len h1
          simp [mu, follow, h, impl, wt]; omega
  · rename_i t l ht
    rw [ht] at h0
    simp only at h0
    have hw := wt_le (ahead l (opens t))
    split
    · rename_i h1
      refine ⟨?_, ?_, ⟨l, ht⟩⟩
      · rw [br_open _ _ h1]
        simp [follow, h, openOf]
      · simp [mu, follow, h, ht]; omega
    · rename_i h1
      rw [if_neg h1] at h0
      split
      · rename_i h2
        rw [if_pos h2] at h0
        split
        · rename_i h3; rw [if_pos h3] at h0; simp [stop] at h0
        · rename_i h3
          have hb : s.blocks ≠ [] := fun hb => h3 (.inl hb)
          have hc : ¬ 0 < col s.blocks := fun hb => h3 (.inr hb)
          refine ⟨?_, ?_, ⟨l, ht⟩⟩
          · rw [openOf_pop s h hb (ahead l (opens t)) l, show decide (0 < col s.blocks) = false from decide_eq_false hc]
            rw [show openOf ⟨l, ahead l (opens t), s.blocks.dropLast, 0⟩ ++ [false] = openOf ⟨l, ahead l (opens t), s.blocks.dropLast, 0⟩ ++ [(⟨t, false⟩ : Lx).imp] from rfl, br_shut _ _ h2]
            simp [follow, h, openOf]
          · simp [mu, follow, h, ht]; omega
      · rename_i h2
        refine ⟨?_, ?_, ⟨l, ht⟩⟩
        · rw [br_else _ _ (by simpa using h1) (by simpa using h2)]
          simp [follow, h, openOf]
        · simp [mu, follow, h, ht]; omega
theorem good_coming (e : Nat) (s : S) : Good s (coming e s) := by
  unfold coming
  split
  · rename_i ho
    intro _
    obtain ⟨k, hk⟩ : ∃ k, s.owed = k + 1 := ⟨s.owed - 1, by omega⟩
    refine ⟨?_, ?_, trivial⟩
    · have : openOf s = (s.blocks.map (fun n => decide (0 < n)) ++ List.replicate k true) ++ [(impl e s.toks [125]).imp] := by
        unfold openOf
        rw [hk, List.replicate_succ', List.append_assoc]
        rfl
      rw [this, br_shut _ _ rfl]
      simp [follow, hk, openOf, impl]
      omega
    · simp [mu, follow, hk, impl]; omega
  · rename_i ho
    have h : s.owed = 0 := by omega
    unfold next
    split
    · rename_i n hst
      intro _
      unfold openNext
      split
      · rename_i hc
        refine ⟨?_, ?_, trivial⟩
        · rw [br_open _ _ rfl]
          simp [follow, h, openOf, impl]; omega
        · simp [mu, follow, h, impl, hst, wt]; omega
      · refine ⟨?_, ?_, trivial⟩
        · rw [br_open _ _ rfl]
          simp [follow, h, openOf, impl]
        · simp [mu, follow, h, impl, hst, wt]
    · rename_i n hst
      unfold lineNext
      split
      · intro _
        refine ⟨?_, ?_, trivial⟩
        · rw [br_else _ _ rfl rfl]
          simp [follow, h, openOf, impl]
        · simp [mu, follow, h, impl, hst, wt]
      · split
        · rename_i hc
          intro _
          have hb := col_pos hc.1
          refine ⟨?_, ?_, trivial⟩
          · rw [openOf_pop s h hb .plain s.toks, show decide (0 < col s.blocks) = (impl e s.toks [125]).imp from decide_eq_true hc.1, br_shut _ _ rfl]
            simp [follow, h, impl, openOf]
          · have := ne_len hb
            simp [mu, follow, h, impl, hst, wt]; omega
        · exact good_plain e s h
    · exact good_plain e s h
theorem over_nil (e : Nat) (s : S) (h : (coming e s).err = 11) : openOf s = [] ∧ s.toks = [] := by
  have key : ∀ (l : List M.Tk) (bs : List Nat), (plainNext e l bs).err = 11 → bs = [] ∧ l = [] := by
    intro l bs h
    unfold plainNext at h
    split at h
    · split at h
      · rename_i h1; exact ⟨h1, rfl⟩
      · split at h <;> simp [stop] at h
    · split at h
      · simp at h
      · split at h
        · split at h <;> simp [stop] at h
        · simp at h
  unfold coming at h
  split at h
  · simp at h
  · rename_i ho
    have h0 : s.owed = 0 := by omega
    have : s.blocks = [] ∧ s.toks = [] := by
      unfold next at h
      split at h
      · unfold openNext at h; split at h <;> simp at h
      · unfold lineNext at h
        split at h
        · simp at h
        · split at h
          · simp at h
          · exact key _ _ h
      · exact key _ _ h
    exact ⟨by simp [openOf, this.1, h0], this.2⟩
theorem follow_toks (s : S) (t : Turn) : (follow s t).toks = if t.lx.imp = true then s.toks else s.toks.drop 1 := rfl

theorem run_fuel (e : Nat) : ∀ (f f' : Nat) (s : S), mu s < f → mu s < f' → run e f s = run e f' s
  | 0, _, s, h, _ => by omega
  | _, 0, s, _, h => by omega
  | f + 1, f' + 1, s, h, h' => by
    unfold run
    rcases coming_err e s with h0 | h0 | h0
    · rw [if_neg (by omega), if_neg (by omega), if_neg (by omega), if_neg (by omega)]
      have := (good_coming e s h0).2.1
      rw [run_fuel e f f' _ (by omega) (by omega)]
    · rw [if_neg (by omega), if_pos h0, if_neg (by omega), if_pos h0]
    · rw [if_pos h0, if_pos h0]
theorem run_pairs (e : Nat) : ∀ (f : Nat) (s : S) (xs : List Lx), run e f s = .inr xs → xs.foldl brStep (some (openOf s)) = some [] ∧ (xs.filter (fun x => !x.imp)).map (·.t) = s.toks ∧ xs.length ≤ f
  | 0, s, xs, h => by simp [run] at h
  | f + 1, s, xs, h => by
    unfold run at h
    rcases coming_err e s with h0 | h0 | h0
    · rw [if_neg (by omega), if_neg (by omega)] at h
      have hg := good_coming e s h0
      cases hc : run e f (follow s (coming e s)) with
      | inl a => rw [hc] at h; simp at h
      | inr ys =>
        rw [hc] at h
        simp only [Sum.inr.injEq] at h
        subst h
        have ih := run_pairs e f _ ys hc
        refine ⟨by rw [List.foldl_cons, hg.1]; exact ih.1, ?_, by simp; omega⟩
        have h3 := hg.2.2
        rw [follow_toks] at ih
        by_cases hi : (coming e s).lx.imp = true
        · rw [if_pos hi] at ih
          rw [List.filter_cons_of_neg (by simp [hi])]
          exact ih.2.1
        · rw [if_neg hi] at ih h3
          obtain ⟨l, hl⟩ := h3
          rw [List.filter_cons_of_pos (by simp [hi]), List.map_cons, ih.2.1, hl]
          rfl
    · rw [if_neg (by omega), if_pos h0] at h; simp at h
    · rw [if_pos h0] at h
      cases h
      have := over_nil e s h0
      simp [this.1, this.2]
theorem run_place (e : Nat) : ∀ (f : Nat) (s : S) (a : Nat), (∀ t ∈ s.toks, t.pos ≤ e) → mu s < f → run e f s = .inl a → a ≤ e
  | 0, s, a, _, h, _ => by omega
  | f + 1, s, a, ht, hm, h => by
    unfold run at h
    rcases coming_err e s with h0 | h0 | h0
    · rw [if_neg (by omega), if_neg (by omega)] at h
      have hg := good_coming e s h0
      cases hc : run e f (follow s (coming e s)) with
      | inr ys => rw [hc] at h; simp at h
      | inl b =>
        rw [hc] at h
        simp only [Sum.inl.injEq] at h
        subst h
        refine run_place e f _ b ?_ (by omega) hc
        intro t hmem
        rw [follow_toks] at hmem
        split at hmem
        · exact ht t hmem
        · exact ht t (List.mem_of_mem_drop hmem)
    · rw [if_neg (by omega), if_pos h0] at h
      cases h
      unfold place
      split
      · exact Nat.le_refl _
      · rename_i t l hl; exact ht t (by rw [hl]; simp)
    · rw [if_pos h0] at h; simp at h
theorem mu_new (l : List M.Tk) : mu (new l) < 5 * l.length + 4 := by
  have := wt_le (ahead l true)
  simp [mu, new]; omega
theorem all_pairs (l : List M.Tk) (e : Nat) (xs : List Lx) (h : all l e = .inr xs) : xs.foldl brStep (some []) = some [] ∧ (xs.filter (fun x => !x.imp)).map (·.t) = l ∧ xs.length ≤ 5 * l.length + 4 :=
  run_pairs e _ _ xs h
theorem all_place (l : List M.Tk) (e a : Nat) (ht : ∀ t ∈ l, t.pos ≤ e) (h : all l e = .inl a) : a ≤ e := run_place e _ _ a ht (mu_new l) h

end Go.Proofs.YtldpldcfgkceeaaGreatDoor.L

namespace Go.Proofs.YtldpldcfgkceeaaGreatDoor.L

/-- What a turn that is one may be. -/
structure Fit (s : S) (t : Turn) : Prop where
  st : ∃ x, t.st = some x
  ends : t.ends = true → s.blocks ≠ []
  one : t.begins = true → t.ends = false
  lo : -1 ≤ t.owed
  hi : t.owed ≤ 1
  sum : 0 ≤ (s.owed : Int) + t.owed
theorem fit_plain (e : Nat) (s : S) (h : (plainNext e s.toks s.blocks).err = 0) : Fit s (plainNext e s.toks s.blocks) := by
  unfold plainNext at h ⊢
  split
  · rename_i ht
    rw [ht] at h
    simp only at h
    split
    · rename_i h1; rw [if_pos h1] at h; simp [stop] at h
    · rename_i h1
      rw [if_neg h1] at h
      split
      · rename_i h2; rw [if_pos h2] at h; simp [stop] at h
      · exact ⟨⟨_, rfl⟩, fun _ => h1, by simp, by simp, by simp, by simp⟩
  · rename_i t l ht
    rw [ht] at h
    simp only at h
    split
    · exact ⟨⟨_, rfl⟩, by simp, by simp, by simp, by simp, by simp⟩
    · rename_i h1
      rw [if_neg h1] at h
      split
      · rename_i h2
        rw [if_pos h2] at h
        split
        · rename_i h3; rw [if_pos h3] at h; simp [stop] at h
        · rename_i h3
          exact ⟨⟨_, rfl⟩, fun _ hb => h3 (.inl hb), by simp, by simp, by simp, by simp⟩
      · exact ⟨⟨_, rfl⟩, by simp, by simp, by simp, by simp, by simp⟩
theorem fit_coming (e : Nat) (s : S) (h : (coming e s).err = 0) : Fit s (coming e s) := by
  unfold coming at h ⊢
  split
  · rename_i ho
    exact ⟨⟨_, rfl⟩, by simp, by simp, by simp, by simp, by simp; omega⟩
  · rename_i ho
    rw [if_neg ho] at h
    unfold next at h ⊢
    split
    · unfold openNext
      split
      · exact ⟨⟨_, rfl⟩, by simp, by simp, by simp, by simp, by simp⟩
      · exact ⟨⟨_, rfl⟩, by simp, by simp, by simp, by simp, by simp; omega⟩
    · rename_i n hst
      rw [hst] at h
      simp only at h
      unfold lineNext at h ⊢
      split
      · exact ⟨⟨_, rfl⟩, by simp, by simp, by simp, by simp, by simp⟩
      · rename_i h1
        rw [if_neg h1] at h
        split
        · rename_i h2
          exact ⟨⟨_, rfl⟩, fun _ => col_pos h2.1, by simp, by simp, by simp, by simp⟩
        · rename_i h2
          rw [if_neg h2] at h
          exact fit_plain e s h
    · rename_i hst
      rw [hst] at h
      simp only at h
      exact fit_plain e s h
/-- What is told of a turn that is none. -/
theorem none_zero (e : Nat) (s : S) (h : (coming e s).err ≠ 0) : (coming e s).lx = zeroLx := by
  have key : ∀ (l : List M.Tk) (bs : List Nat), (plainNext e l bs).err ≠ 0 → (plainNext e l bs).lx = zeroLx := by
    intro l bs h
    unfold plainNext at h ⊢
    split
    · split
      · rfl
      · split
        · rfl
        · rename_i h1 h2
          simp [h1, h2] at h
    · rename_i t l
      simp only at h
      split
      · rename_i h1; simp [h1] at h
      · rename_i h1
        rw [if_neg h1] at h
        split
        · rename_i h2
          rw [if_pos h2] at h
          split
          · rfl
          · rename_i h3; rw [if_neg h3] at h; simp at h
        · rename_i h2; rw [if_neg h2] at h; simp at h
  unfold coming at h ⊢
  split
  · rename_i ho; rw [if_pos ho] at h; simp at h
  · rename_i ho
    rw [if_neg ho] at h
    unfold next at h ⊢
    split
    · rename_i n hst
      rw [hst] at h
      simp only at h
      unfold openNext at h
      split at h <;> simp at h
    · rename_i n hst
      rw [hst] at h
      simp only at h
      unfold lineNext at h ⊢
      split
      · rename_i h1; rw [if_pos h1] at h; simp at h
      · rename_i h1
        rw [if_neg h1] at h
        split
        · rename_i h2; rw [if_pos h2] at h; simp at h
        · rename_i h2
          rw [if_neg h2] at h
          exact key _ _ h
    · rename_i hst
      rw [hst] at h
      exact key _ _ h
theorem plain_stop (e : Nat) (l : List M.Tk) (bs : List Nat) (h : (plainNext e l bs).err ≠ 0) : plainNext e l bs = stop (plainNext e l bs).err := by
  unfold plainNext at h ⊢
  cases l with
  | nil =>
    simp only at h ⊢
    by_cases h1 : bs = []
    · rw [if_pos h1]; rfl
    · rw [if_neg h1] at h ⊢
      by_cases h2 : col bs = 0
      · rw [if_pos h2]; rfl
      · rw [if_neg h2] at h; simp at h
  | cons t l =>
    simp only at h ⊢
    by_cases h1 : isMark t [123] = true
    · rw [if_pos h1] at h; simp at h
    · rw [if_neg h1] at h ⊢
      by_cases h2 : isMark t [125] = true
      · rw [if_pos h2] at h ⊢
        by_cases h3 : bs = [] ∨ 0 < col bs
        · rw [if_pos h3]; rfl
        · rw [if_neg h3] at h; simp at h
      · rw [if_neg h2] at h; simp at h
theorem none_stop (e : Nat) (s : S) (h : (coming e s).err ≠ 0) : coming e s = stop (coming e s).err := by
  unfold coming at h ⊢
  by_cases ho : 0 < s.owed
  · rw [if_pos ho] at h; simp at h
  · rw [if_neg ho] at h ⊢
    unfold next at h ⊢
    cases hst : s.st with
    | opening n =>
      rw [hst] at h
      simp only at h
      unfold openNext at h
      split at h <;> simp at h
    | lining n =>
      rw [hst] at h
      simp only at h ⊢
      unfold lineNext at h ⊢
      by_cases h1 : 0 < col s.blocks ∧ col s.blocks = n
      · rw [if_pos h1] at h; simp at h
      · rw [if_neg h1] at h ⊢
        by_cases h2 : 0 < col s.blocks ∧ n < col s.blocks
        · rw [if_pos h2] at h; simp at h
        · rw [if_neg h2] at h ⊢
          exact plain_stop e _ _ h
    | plain =>
      rw [hst] at h
      exact plain_stop e _ _ h
/-- What comes of a row so far and of what is left. -/
def glue (pre : List Lx) : Sum Nat (List Lx) → Sum Nat (List Lx)
  | .inl a => .inl a
  | .inr xs => .inr (pre ++ xs)
theorem glue_nil (r : Sum Nat (List Lx)) : glue [] r = r := by cases r <;> simp [glue]
theorem run_over (e f : Nat) (s : S) (h : (coming e s).err = 11) : run e (f + 1) s = .inr [] := by
  unfold run; rw [if_pos h]
theorem run_bad (e f : Nat) (s : S) (h : (coming e s).err = 5) : run e (f + 1) s = .inl (place e s.toks) := by
  unfold run; rw [if_neg (by omega), if_pos h]
theorem run_on (e f : Nat) (s : S) (pre : List Lx) (h : (coming e s).err = 0) : glue pre (run e (f + 1) s) = glue (pre ++ [(coming e s).lx]) (run e f (follow s (coming e s))) := by
  conv => lhs; unfold run
  rw [if_neg (by omega), if_neg (by omega)]
  cases run e f (follow s (coming e s)) <;> simp [glue]
theorem mu_toks (s : S) : s.toks.length ≤ mu s ∧ s.blocks.length ≤ mu s ∧ s.owed ≤ mu s := by unfold mu; omega

end Go.Proofs.YtldpldcfgkceeaaGreatDoor.L

namespace Go.Proofs.YtldpldcfgkceeaaGreatDoor.L
set_option linter.unusedVariables false

def piece (x : Lx) : List UInt8 := if x.imp = true then [60] ++ x.t.t.text ++ [62] else x.t.t.text
def shw : Nat → List UInt8 → List Lx → List UInt8
  | _, o, [] => o
  | k, o, x :: xs => shw (k + 1) ((if 0 < k then o ++ [32] else o) ++ piece x) xs
theorem shw_drop (xs : List Lx) (k : Nat) (o : List UInt8) (h : k < xs.length) : shw k o (xs.drop k) = shw (k + 1) ((if 0 < k then o ++ [32] else o) ++ piece xs[k]) (xs.drop (k + 1)) := by
  rw [List.drop_eq_getElem_cons h]
  rfl
/-- The braces that are open behind the first k. -/
def opn (xs : List Lx) (k : Nat) : Option (List Bool) := (xs.take k).foldl brStep (some [])
theorem opn_succ (xs : List Lx) (k : Nat) (h : k < xs.length) : opn xs (k + 1) = brStep (opn xs k) xs[k] := by
  unfold opn
  rw [List.take_succ_eq_append_getElem h, List.foldl_append]
  rfl
theorem opn_all (xs : List Lx) : opn xs xs.length = xs.foldl brStep (some []) := by
  unfold opn; rw [List.take_length]
theorem fold_none (xs : List Lx) : xs.foldl brStep none = none := by
  induction xs with
  | nil => rfl
  | cons x xs ih => rw [List.foldl_cons]; exact ih
theorem opn_some (xs : List Lx) (h : xs.foldl brStep (some []) = some []) (k : Nat) (hk : k ≤ xs.length) : ∃ o, opn xs k = some o := by
  cases ho : opn xs k with
  | some o => exact ⟨o, rfl⟩
  | none =>
    exfalso
    have : xs.foldl brStep (some []) = (xs.drop k).foldl brStep (opn xs k) := by
      unfold opn
      rw [← List.foldl_append, List.take_append_drop]
    rw [this, ho, fold_none] at h
    cases h
/-- The text's own tokens among the first k. -/
def ownT (xs : List Lx) (k : Nat) : List M.Tk := ((xs.take k).filter (fun x => !x.imp)).map (·.t)
theorem ownT_succ (xs : List Lx) (k : Nat) (h : k < xs.length) : ownT xs (k + 1) = ownT xs k ++ (if xs[k].imp = true then [] else [xs[k].t]) := by
  unfold ownT
  rw [List.take_succ_eq_append_getElem h, List.filter_append, List.map_append]
  congr 1
  cases hi : xs[k].imp <;> simp [List.filter, hi]
theorem br_step_cases (o o' : List Bool) (x : Lx) (h : brStep (some o) x = some o') :
    (x.t.t.kind ≠ 8 ∧ o' = o) ∨ (x.t.t.kind = 8 ∧ x.t.t.text = [123] ∧ o' = o ++ [x.imp]) ∨ (x.t.t.kind = 8 ∧ x.t.t.text = [125] ∧ o = o' ++ [x.imp]) ∨ (x.t.t.kind = 8 ∧ x.t.t.text ≠ [123] ∧ x.t.t.text ≠ [125] ∧ o' = o) := by
  unfold brStep at h
  simp only [Option.bind_some] at h
  by_cases hk : x.t.t.kind = 8
  · rw [if_neg (by simp [hk])] at h
    by_cases h1 : x.t.t.text = [123]
    · rw [if_pos h1] at h
      exact .inr (.inl ⟨hk, h1, by simpa using h.symm⟩)
    · rw [if_neg h1] at h
      by_cases h2 : x.t.t.text = [125]
      · rw [if_pos h2] at h
        split at h
        · cases h
        · rename_i h3
          have hne : o ≠ [] := fun e => h3 (.inl e)
          have hl : o.getLast? = some x.imp := Classical.byContradiction fun e => h3 (.inr e)
          refine .inr (.inr (.inl ⟨hk, h2, ?_⟩))
          simp only [Option.some.injEq] at h
          rw [← h]
          rw [List.getLast?_eq_some_getLast hne, Option.some.injEq] at hl
          rw [← hl, List.dropLast_concat_getLast hne]
      · rw [if_neg h2] at h
        exact .inr (.inr (.inr ⟨hk, h1, h2, by simpa using h.symm⟩))
  · rw [if_pos hk] at h
    exact .inl ⟨hk, by simpa using h.symm⟩

end Go.Proofs.YtldpldcfgkceeaaGreatDoor.L
