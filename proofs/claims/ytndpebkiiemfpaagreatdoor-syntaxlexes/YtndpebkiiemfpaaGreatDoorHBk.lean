/-
  Plain mathematics: a token's lexeme, told and read again.
  Plain mathematics: the places of a text's tokens rise, and the first token of each line is told.
  Plain mathematics: what stands from each token's place on, up to the next one's, has just that token.
  Plain mathematics: what was read is told so that it is read again.
-/
import Derived.Test.YtndpebkiiemfpaaGreatDoorHTx
import Derived.Lib.ItoaMem
import Derived.Test.YtndpebkiiemfpaaGreatDoorAllH
namespace Go.Proofs.YtndpebkiiemfpaaGreatDoor
open Go.RowKit Go.Shelf Go.Maps
set_option linter.unusedVariables false

/-- What may stand behind a lexeme: nothing, or a blank. -/
def Aft (r : List UInt8) : Prop := r = [] ∨ ∃ r', r = 32 :: r'
theorem aft_cnt (p : UInt8 → Bool) (hp : p 32 = false) {r : List UInt8} (h : Aft r) : M.cnt p r = 0 := by
  rcases h with rfl | ⟨r', rfl⟩
  · rfl
  · show (if p 32 = true then _ else 0) = 0
    rw [hp]; rfl
theorem cnt_app (p : UInt8 → Bool) (u r : List UInt8) (hu : ∀ b ∈ u, p b = true) (hr : M.cnt p r = 0) : M.cnt p (u ++ r) = u.length := by rw [M.cnt_append p u r hu, hr, Nat.add_zero]
/-- The digits of a number. -/
theorem dig_all : ∀ n : Nat, ∀ b ∈ Lib.decDigits n, M.digB b = true := by
  intro n
  induction n using Nat.strongRecOn with
  | _ n ih =>
    intro b hb
    rw [Lib.decDigits] at hb
    have key : ∀ d : Nat, d < 10 → M.digB (UInt8.ofNat (48 + d)) = true := by decide
    split at hb
    · rename_i h
      rw [List.mem_singleton] at hb; subst hb; exact key n h
    · rename_i h
      rcases List.mem_append.1 hb with hb | hb
      · exact ih (n / 10) (by omega) b hb
      · rw [List.mem_singleton] at hb; subst hb; exact key (n % 10) (by omega)
theorem val_app (a : Nat) (u v : List UInt8) : M.val 10 a (u ++ v) = M.val 10 (M.val 10 a u) v := by
  induction u generalizing a with
  | nil => rfl
  | cons b u ih => exact ih _
theorem val_dig : ∀ n : Nat, M.val 10 0 (Lib.decDigits n) = n := by
  intro n
  induction n using Nat.strongRecOn with
  | _ n ih =>
    rw [Lib.decDigits]
    have key : ∀ d : Nat, d < 10 → M.hexv (UInt8.ofNat (48 + d)) = d := by decide
    split
    · rename_i h
      show 0 * 10 + M.hexv (UInt8.ofNat (48 + n)) = n
      rw [key n h]; omega
    · rename_i h
      rw [val_app, ih (n / 10) (by omega)]
      show n / 10 * 10 + M.hexv (UInt8.ofNat (48 + n % 10)) = n
      rw [key (n % 10) (by omega)]; omega
theorem dig_ne (n : Nat) : Lib.decDigits n ≠ [] := by
  rw [Lib.decDigits]; split <;> simp
theorem dig_head : ∀ n : Nat, ∃ d t, Lib.decDigits n = d :: t ∧ (d = 48 → n = 0) := by
  intro n
  induction n using Nat.strongRecOn with
  | _ n ih =>
    rw [Lib.decDigits]
    split
    · rename_i h
      refine ⟨_, [], rfl, fun hd => ?_⟩
      have key : ∀ d : Nat, d < 10 → UInt8.ofNat (48 + d) = 48 → d = 0 := by decide
      exact key n h hd
    · rename_i h
      obtain ⟨d, t, he, hd⟩ := ih (n / 10) (by omega)
      refine ⟨d, t ++ [UInt8.ofNat (48 + n % 10)], by rw [he]; rfl, fun h48 => ?_⟩
      have := hd h48
      omega
theorem digs_dec (n bits : Nat) (hn : n < 2 ^ bits) (r : List UInt8) (hr : M.cnt M.digB r = 0) : M.digs 10 bits (Lib.decDigits n ++ r) = ((Lib.decDigits n).length, n) := by
  have hc : M.cnt (M.dig 10) (Lib.decDigits n ++ r) = (Lib.decDigits n).length := by rw [M.dig10]; exact cnt_app _ _ _ (dig_all n) hr
  have hl : (Lib.decDigits n).length ≠ 0 := fun e => dig_ne n (List.length_eq_zero_iff.1 e)
  unfold M.digs
  rw [hc, List.take_left, val_dig, if_neg (by omega)]
/-- A lexeme that is read as it was told. -/
structure Good (t : M.T0) (u : List UInt8) : Prop where
  ne : u ≠ []
  pass : ∀ r, Aft r → M.pass1 (u ++ r) = 0
  lex : ∃ k, (∀ r, Aft r → M.lex1 (u ++ r) = (k, u.length)) ∧ M.resv (M.mkTok (k + 1) u) = t
  ok : ∀ b ∈ u, okB b = true
theorem pass_other (b : UInt8) (l : List UInt8) (h1 : M.blankB b = false) (h2 : M.dashB b = false) (h3 : ¬ b.toNat = 123) : M.pass1 (b :: l) = 0 := by
  rw [M.pass1_cons, if_neg (by rw [h1]; simp), if_neg (by rw [h2]; simp), if_neg h3]
theorem pass_cls (b : UInt8) (l : List UInt8) (h : M.cls b ≠ 2) (h7 : M.cls b ≠ 7) (h8 : M.cls b ≠ 8) : M.pass1 (b :: l) = 0 := by
  have hf := M.pcls_facts b
  refine pass_other b l ?_ ?_ ?_
  · cases hb : M.blankB b with
    | false => rfl
    | true => exact absurd (hf.1 hb).2.2 h8
  · cases hb : M.dashB b with
    | false => rfl
    | true => exact absurd (hf.2.1 hb).2 h
  · intro hb
    exact absurd (hf.2.2.1 hb) h7
theorem nz_pos {k n : Nat} (h : n ≠ 0) : M.nz k n = (k, n) := by unfold M.nz; rw [if_neg h]

theorem good_int (n : Nat) (hn : n < 2 ^ 63) : Good ⟨5, [], n⟩ (Lib.decDigits n) := by
  obtain ⟨d, t, he, hd⟩ := dig_head n
  have hdig : M.digB d = true := dig_all n d (by rw [he]; simp)
  have hcl : M.cls d = 4 := by have := (M.cls_facts d).2.2.2.2.1; rw [hdig] at this; simpa using this.symm
  have hnum : ∀ r, Aft r → M.number (Lib.decDigits n ++ r) = ((Lib.decDigits n).length, n) := by
    intro r hr
    unfold M.number
    rw [if_neg ?_]
    · exact digs_dec n 63 hn r (aft_cnt _ (by decide) hr)
    · intro hx
      unfold M.isHexed at hx
      rw [he] at hx
      simp only [Bool.and_eq_true] at hx
      have h1 := hx.1
      by_cases h48 : d = 48
      · have hn0 := hd h48
        subst hn0
        have ht : t = [] := by
          have : Lib.decDigits 0 = [48] := by rw [Lib.decDigits]; rfl
          rw [this] at he
          simp at he
          exact he.2
        subst ht
        rcases hr with rfl | ⟨r', rfl⟩
        · simp [List.isPrefixOf] at h1
        · simp [List.isPrefixOf] at h1
      · have : ([48, 120] : List UInt8).isPrefixOf (d :: t ++ r) = false := by
          show (48 == d && _) = false
          have : ((48 : UInt8) == d) = false := beq_eq_false_iff_ne.2 (fun e => h48 e.symm)
          rw [this]; rfl
        rw [this] at h1
        cases h1
  have hl : (Lib.decDigits n).length ≠ 0 := by rw [he]; simp
  refine ⟨dig_ne n, fun r hr => ?_, ⟨4, fun r hr => ?_, ?_⟩, fun b hb => ?_⟩
  · rw [he]; exact pass_cls d _ (by omega) (by omega) (by omega)
  · have h1 := hnum r hr
    rw [he] at h1 ⊢
    show M.lex1 (d :: (t ++ r)) = _
    rw [M.lex1_cons, hcl]
    show M.nz 4 (M.number (d :: t ++ r)).1 = _
    rw [h1]
    exact nz_pos (by simp)
  · have h1 := hnum [] (.inl rfl)
    rw [List.append_nil] at h1
    show M.resv (M.mkTok 5 (Lib.decDigits n)) = _
    unfold M.mkTok
    rw [if_pos rfl, h1]
    rfl
  · have := dig_all n b hb
    have key : ∀ b : UInt8, (!M.digB b || okB b) = true := M.all256 _ (by decide +kernel)
    have := key b
    simp_all

/-- A lexeme that begins with one sort of byte, and goes on with another. -/
theorem good_run (k c : Nat) (p q : UInt8 → Bool) (t : M.T0) (b : UInt8) (u : List UInt8) (hb : p b = true) (hu : ∀ x ∈ u, q x = true) (hq : q 32 = false) (hcl : M.cls b = c) (hby : ∀ l, M.byCls c l = M.nz k (M.headed p q l)) (hps : ∀ r, Aft r → M.pass1 (b :: (u ++ r)) = 0) (hmk : M.resv (M.mkTok (k + 1) (b :: u)) = t) (hok : ∀ x ∈ b :: u, okB x = true) : Good t (b :: u) := by
  refine ⟨by simp, hps, ⟨k, fun r hr => ?_, hmk⟩, hok⟩
  show M.lex1 (b :: (u ++ r)) = _
  rw [M.lex1_cons, hcl, hby, M.headed_cons, if_pos hb, cnt_app q u r hu (aft_cnt q hq hr)]
  rw [nz_pos (by omega)]
  rfl
theorem ok_name : ∀ b : UInt8, (!M.inName b || okB b) = true := M.all256 _ (by decide +kernel)
theorem ok_sym : ∀ b : UInt8, (!M.sym b || okB b) = true := M.all256 _ (by decide +kernel)
theorem ok_mark : ∀ b : UInt8, (!M.markL.contains b || okB b) = true := M.all256 _ (by decide +kernel)
theorem ok_plain : ∀ b : UInt8, (!M.plainB b || okB b) = true := M.all256 _ (by decide +kernel)
theorem or_of {a b : Bool} (h : (!a || b) = true) (ha : a = true) : b = true := by subst ha; simpa using h

/-- What a text's lexeme is, by its sort. -/
theorem lex_parts (l : List UInt8) (k n : Nat) (hl : M.lex1 l = (k, n)) (hn : n ≠ 0) : ∃ b l', l = b :: l' ∧ M.byCls (M.cls b) l = (k, n) := by
  cases l with
  | nil => rw [M.lex1_nil] at hl; simp at hl; omega
  | cons b l' => exact ⟨b, l', rfl, by rw [← M.lex1_cons]; exact hl⟩
theorem good_mark (b : UInt8) (h : M.markL.contains b = true) : Good ⟨8, [b], 0⟩ [b] := by
  have hcl : M.cls b = 7 := by have := (M.cls_facts b).2.2.2.2.2.2.2.1; rw [h] at this; simpa using this.symm
  have h45 : ∀ r, Aft r → ([123, 45] : List UInt8).isPrefixOf ([b] ++ r) = false := by
    intro r hr
    rcases hr with rfl | ⟨r', rfl⟩
    · simp [List.isPrefixOf]
    · simp [List.isPrefixOf]
  have key : ∀ b : UInt8, (!M.markL.contains b || (!M.blankB b && !M.dashB b)) = true := M.all256 _ (by decide +kernel)
  have hk := or_of (key b) h
  simp only [Bool.and_eq_true, Bool.not_eq_true'] at hk
  refine ⟨by simp, fun r hr => ?_, ⟨7, fun r hr => ?_, rfl⟩, fun x hx => ?_⟩
  · show M.pass1 (b :: r) = 0
    rw [M.pass1_cons, if_neg (by rw [hk.1]; simp), if_neg (by rw [hk.2]; simp)]
    split
    · show (if ([123, 45] : List UInt8).isPrefixOf ([b] ++ r) then _ else 0) = 0
      rw [h45 r hr]; rfl
    · rfl
  · show M.lex1 (b :: r) = _
    rw [M.lex1_cons, hcl]
    show M.nz 7 (M.takeMark (b :: r)) = _
    rw [M.takeMark_cons]
    have := h45 r hr
    simp only [List.singleton_append] at this
    rw [this, h]
    rfl
  · simp at hx; subst hx; exact or_of (ok_mark x) h

/-- A character that is told, read again. -/
theorem char_short (q : UInt8) (bh : List UInt8) (c : UInt8) (hq : q = 39 ∨ q = 34) (h : (c = q ∨ c = 92) ∨ M.plainB c = true) (r : List UInt8) : M.character q (chB q bh c ++ r) = ((chB q bh c).length, c.toNat) := by
  unfold chB
  by_cases h1 : c = q ∨ c = 92
  · rw [if_pos h1]
    show M.character q (92 :: (c :: r)) = _
    rw [M.character_cons, if_neg (by rcases hq with rfl | rfl <;> decide), if_pos (by decide), M.escape_cons]
    have h92 : c.toNat = 92 ∨ c.toNat = 39 ∨ c.toNat = 34 := by
      rcases h1 with rfl | rfl
      · rcases hq with rfl | rfl <;> decide
      · decide
    rw [if_neg (by omega), if_neg (by omega), if_pos h92]
    rfl
  · have h2 : M.plainB c = true := by
      rcases h with h | h
      · exact absurd h h1
      · exact h
    rw [if_neg h1, if_pos h2]
    show M.character q (c :: r) = _
    have hq' : ¬ c = q := fun e => h1 (.inl e)
    have h92 : ¬ c.toNat = 92 := fun e => h1 (.inr (UInt8.toNat_inj.1 e))
    rw [M.character_cons, if_neg (by rintro (e | e); exact hq' e; rw [h2] at e; cases e), if_neg h92]
    rfl
theorem char_long (q c : UInt8) (hq : q = 39 ∨ q = 34) (r : List UInt8) (hr : M.cnt M.digB r = 0) : M.character q (92 :: (Lib.itoa (c.toNat : Int) ++ r)) = ((Lib.itoa (c.toNat : Int)).length + 1, c.toNat) := by
  rw [Lib.itoa_nonneg]
  obtain ⟨d, t, he, -⟩ := dig_head c.toNat
  have hdig : M.digB d = true := dig_all c.toNat d (by rw [he]; simp)
  have hds := digs_dec c.toNat 8 (by have := c.toNat_lt; omega) r hr
  rw [M.character_cons, if_neg (by rcases hq with rfl | rfl <;> decide), if_pos (by decide)]
  have hl : (Lib.decDigits c.toNat).length ≠ 0 := by rw [he]; simp
  have hesc : M.escape (Lib.decDigits c.toNat ++ r) = M.digs 10 8 (Lib.decDigits c.toNat ++ r) := by
    rw [he]
    show M.escape (d :: (t ++ r)) = _
    rw [M.escape_cons]
    simp only [M.digB, decide_eq_true_eq] at hdig
    rw [if_neg (by omega), if_neg (by omega), if_neg (by omega), if_neg (by omega)]
    rfl
  rw [hesc, hds]
  unfold M.up
  rw [if_neg hl]
theorem chB_long (q : UInt8) (bh : List UInt8) (c : UInt8) (h : ¬ ((c = q ∨ c = 92) ∨ M.plainB c = true)) : chB q bh c = 92 :: (Lib.itoa (c.toNat : Int) ++ bh) := by
  unfold chB
  rw [if_neg (fun e => h (.inl e)), if_neg (fun e => h (.inr e))]
theorem chB_ok (q : UInt8) (bh : List UInt8) (c : UInt8) (hq : q = 39 ∨ q = 34) (hb : ∀ x ∈ bh, okB x = true) : ∀ x ∈ chB q bh c, okB x = true := by
  intro x hx
  by_cases h : (c = q ∨ c = 92) ∨ M.plainB c = true
  · unfold chB at hx
    by_cases h1 : c = q ∨ c = 92
    · rw [if_pos h1] at hx
      simp only [List.mem_cons, List.not_mem_nil, or_false] at hx
      rcases hx with rfl | rfl
      · decide
      · rcases h1 with rfl | rfl
        · rcases hq with rfl | rfl <;> decide
        · decide
    · have h2 : M.plainB c = true := by
        rcases h with h | h
        · exact absurd h h1
        · exact h
      rw [if_neg h1, if_pos h2, List.mem_singleton] at hx
      subst hx
      exact or_of (ok_plain x) h2
  · rw [chB_long q bh c h] at hx
    rcases List.mem_cons.1 hx with rfl | hx
    · decide
    · rcases List.mem_append.1 hx with hx | hx
      · rw [Lib.itoa_nonneg] at hx
        have key : ∀ b : UInt8, (!M.digB b || okB b) = true := M.all256 _ (by decide +kernel)
        exact or_of (key x) (dig_all _ x hx)
      · exact hb x hx
theorem char_told (c : UInt8) (r : List UInt8) : M.character 39 (chB 39 [] c ++ 39 :: r) = ((chB 39 [] c).length, c.toNat) := by
  by_cases h : (c = 39 ∨ c = 92) ∨ M.plainB c = true
  · exact char_short 39 [] c (.inl rfl) h _
  · rw [chB_long 39 [] c h, List.append_nil]
    show M.character 39 (92 :: (Lib.itoa (c.toNat : Int) ++ 39 :: r)) = _
    rw [char_long 39 c (.inl rfl) (39 :: r) (by rfl)]
    rfl
theorem cls39 : M.cls 39 = 5 := by decide +kernel
theorem cls34 : M.cls 34 = 6 := by decide +kernel
theorem good_char (c : UInt8) : Good ⟨6, [], c.toNat⟩ (quM 39 [] [c]) := by
  have hu : quM 39 [] [c] = 39 :: (chB 39 [] c ++ [39]) := by unfold quM; simp
  rw [hu]
  have hne : (chB 39 [] c).length ≠ 0 := by
    unfold chB; split
    · simp
    · split <;> simp
  have hch : ∀ r, M.takeChar ((39 :: (chB 39 [] c ++ [39])) ++ r) = (chB 39 [] c).length + 2 := by
    intro r
    have h1 := char_told c r
    have e : (39 :: (chB 39 [] c ++ [39])) ++ r = 39 :: (chB 39 [] c ++ 39 :: r) := by simp
    rw [e]
    unfold M.takeChar
    rw [if_pos (by rfl)]
    show (if (M.character 39 (chB 39 [] c ++ 39 :: r)).1 = 0 ∨ ([39] : List UInt8).isPrefixOf ((39 :: (chB 39 [] c ++ 39 :: r)).drop (1 + (M.character 39 (chB 39 [] c ++ 39 :: r)).1)) = false then 0 else (M.character 39 (chB 39 [] c ++ 39 :: r)).1 + 2) = _
    rw [h1]
    have ed : (39 :: (chB 39 [] c ++ 39 :: r)).drop (1 + (chB 39 [] c).length) = 39 :: r := by
      rw [Nat.add_comm, List.drop_succ_cons, List.drop_left]
    rw [ed, if_neg (by rintro (e | e); exact hne e; simp [List.isPrefixOf] at e)]
  refine ⟨by simp, fun r hr => ?_, ⟨5, fun r hr => ?_, ?_⟩, fun x hx => ?_⟩
  · rw [List.cons_append]
    exact pass_cls 39 _ (by rw [cls39]; omega) (by rw [cls39]; omega) (by rw [cls39]; omega)
  · rw [List.cons_append, M.lex1_cons, cls39]
    show M.nz 5 (M.takeChar ((39 :: (chB 39 [] c ++ [39])) ++ r)) = _
    rw [hch r, nz_pos (by omega)]
    simp
  · show M.resv (M.mkTok 6 (39 :: (chB 39 [] c ++ [39]))) = _
    have h1 := char_told c []
    unfold M.mkTok
    rw [if_neg (by decide), if_pos rfl]
    show M.resv ⟨6, [], (M.character 39 (chB 39 [] c ++ [39])).2⟩ = _
    rw [h1]
    rfl
  · rcases List.mem_cons.1 hx with rfl | hx
    · decide
    · rcases List.mem_append.1 hx with hx | hx
      · exact chB_ok 39 [] c (.inl rfl) (by simp) x hx
      · rw [List.mem_singleton] at hx; subst hx; decide

/-- What stands for no character: only behind a code. -/
theorem noChar_tilde (r : List UInt8) : M.noChar (92 :: 38 :: r) = 2 := by
  rw [M.noChar_cons, if_pos (by decide), if_pos (by rfl)]
theorem noChar_none (b : UInt8) (r : List UInt8) (h : ¬ b.toNat = 92) : M.noChar (b :: r) = 0 := by rw [M.noChar_cons, if_neg h]
theorem noChar_esc (c : UInt8) (r : List UInt8) (h1 : ¬ c = 38) (h2 : M.blankB c = false) : M.noChar (92 :: c :: r) = 0 := by
  have hc : M.cnt M.blankB (c :: r) = 0 := by show (if M.blankB c = true then _ else 0) = 0; rw [h2]; rfl
  have hp : ([38] : List UInt8).isPrefixOf (c :: r) = false := by
    rw [M.pref1]; exact beq_eq_false_iff_ne.2 (fun e => h1 e.symm)
  rw [M.noChar_cons, if_pos (by decide), if_neg (by rw [hp]; simp), if_pos (.inl hc)]
theorem chs_char (f : Nat) (l : List UInt8) (n : Nat) (c : UInt8) (h34 : ([34] : List UInt8).isPrefixOf l = false) (hn : M.noChar l = 0) (hc : M.character 34 l = (n, c.toNat)) (h0 : n ≠ 0) : M.chs (f + 1) l = (M.chs f (l.drop n)).map fun r => (r.1 + n, c :: r.2) := by
  show (if ([34] : List UInt8).isPrefixOf l then _ else if 0 < M.noChar l then _ else if (M.character 34 l).1 = 0 then _ else _) = _
  rw [h34, hn, hc]
  have : UInt8.ofNat c.toNat = c := by simp
  simp only [Bool.false_eq_true, if_false, Nat.lt_irrefl, if_neg h0, this]
theorem chs_skip (f : Nat) (r : List UInt8) : M.chs (f + 1) (92 :: 38 :: r) = (M.chs f r).map fun x => (x.1 + 2, x.2) := by
  show (if ([34] : List UInt8).isPrefixOf (92 :: 38 :: r) then _ else if 0 < M.noChar (92 :: 38 :: r) then _ else _) = _
  rw [noChar_tilde, if_neg (by rw [M.pref1]; decide), if_pos (by decide)]
  rfl
theorem chs_told (r : List UInt8) : ∀ (text : List UInt8) (f : Nat), (text.flatMap (chB 34 [92, 38]) ++ 34 :: r).length < f → M.chs f (text.flatMap (chB 34 [92, 38]) ++ 34 :: r) = some ((text.flatMap (chB 34 [92, 38])).length + 1, text)
  | [], f, h => by
    obtain ⟨f, rfl⟩ : ∃ g, f = g + 1 := ⟨f - 1, by omega⟩
    show (if ([34] : List UInt8).isPrefixOf (34 :: r) then some (1, []) else _) = _
    rw [M.pref1]
    rfl
  | c :: text, f, h => by
    have e : (c :: text).flatMap (chB 34 [92, 38]) ++ 34 :: r = chB 34 [92, 38] c ++ (text.flatMap (chB 34 [92, 38]) ++ 34 :: r) := by simp [List.flatMap_cons]
    have el : ((c :: text).flatMap (chB 34 [92, 38])).length = (chB 34 [92, 38] c).length + (text.flatMap (chB 34 [92, 38])).length := by simp [List.flatMap_cons]
    rw [e] at h ⊢
    rw [el]
    have ih := chs_told r text
    generalize text.flatMap (chB 34 [92, 38]) ++ 34 :: r = rest at h ih ⊢
    generalize (text.flatMap (chB 34 [92, 38])).length = m at ih ⊢
    obtain ⟨f, rfl⟩ : ∃ g, f = g + 1 := ⟨f - 1, by omega⟩
    by_cases hs : (c = 34 ∨ c = 92) ∨ M.plainB c = true
    · have hc := char_short 34 [92, 38] c (.inr rfl) hs rest
      have hne : (chB 34 [92, 38] c).length ≠ 0 := by
        unfold chB; split
        · simp
        · split <;> simp
      have hpre : ([34] : List UInt8).isPrefixOf (chB 34 [92, 38] c ++ rest) = false ∧ M.noChar (chB 34 [92, 38] c ++ rest) = 0 := by
        unfold chB
        by_cases h1 : c = 34 ∨ c = 92
        · rw [if_pos h1]
          refine ⟨by show ([34] : List UInt8).isPrefixOf (92 :: (c :: rest)) = false; rw [M.pref1]; decide, noChar_esc c rest ?_ ?_⟩
          · rcases h1 with rfl | rfl <;> decide
          · rcases h1 with rfl | rfl <;> decide
        · have h2 : M.plainB c = true := by
            rcases hs with hs | hs
            · exact absurd hs h1
            · exact hs
          rw [if_neg h1, if_pos h2]
          refine ⟨?_, noChar_none c rest (fun e => h1 (.inr (UInt8.toNat_inj.1 e)))⟩
          show ([34] : List UInt8).isPrefixOf (c :: rest) = false
          rw [M.pref1]
          exact beq_eq_false_iff_ne.2 (fun e => h1 (.inl e.symm))
      rw [chs_char f _ _ c hpre.1 hpre.2 hc hne, List.drop_left, ih f (by rw [List.length_append] at h; omega)]
      simp only [Option.map_some, Option.some.injEq, Prod.mk.injEq, and_true]
      omega
    · rw [chB_long 34 [92, 38] c hs] at h ⊢
      have ea : 92 :: (Lib.itoa (c.toNat : Int) ++ [92, 38]) ++ rest = 92 :: (Lib.itoa (c.toNat : Int) ++ (92 :: 38 :: rest)) := by simp
      rw [ea] at h ⊢
      have hc := char_long 34 c (.inr rfl) (92 :: 38 :: rest) (by rfl)
      obtain ⟨d, t, he, -⟩ := dig_head c.toNat
      have hdig : M.digB d = true := dig_all c.toNat d (by rw [he]; simp)
      have hno : M.noChar (92 :: (Lib.itoa (c.toNat : Int) ++ (92 :: 38 :: rest))) = 0 := by
        rw [Lib.itoa_nonneg, he]
        have key : ∀ b : UInt8, (!M.digB b || (b != 38 && !M.blankB b)) = true := M.all256 _ (by decide +kernel)
        have hk := or_of (key d) hdig
        simp only [Bool.and_eq_true, bne_iff_ne, ne_eq, Bool.not_eq_true'] at hk
        exact noChar_esc d _ hk.1 hk.2
      rw [chs_char f _ _ c (by rw [M.pref1]; decide) hno hc (by omega)]
      have ed : (92 :: (Lib.itoa (c.toNat : Int) ++ (92 :: 38 :: rest))).drop ((Lib.itoa (c.toNat : Int)).length + 1) = 92 :: 38 :: rest := by rw [List.drop_succ_cons, List.drop_left]
      rw [ed]
      simp only [List.length_cons, List.length_append] at h
      obtain ⟨f, rfl⟩ : ∃ g, f = g + 1 := ⟨f - 1, by omega⟩
      rw [chs_skip, ih f (by omega)]
      simp only [Option.map_some, Option.some.injEq, Prod.mk.injEq, and_true, List.length_cons, List.length_append, List.length_nil]
      omega
theorem good_str (text : List UInt8) : Good ⟨7, text, 0⟩ (quM 34 [92, 38] text) := by
  have hch : ∀ r, M.chars (quM 34 [92, 38] text ++ r) = ((quM 34 [92, 38] text).length, text) := by
    intro r
    have e : quM 34 [92, 38] text ++ r = 34 :: (text.flatMap (chB 34 [92, 38]) ++ 34 :: r) := by unfold quM; simp
    have h1 := chs_told r text ((quM 34 [92, 38] text ++ r).length + 1) (by rw [e]; simp only [List.length_cons, List.length_append]; omega)
    unfold M.chars
    rw [if_pos (by rw [e]; rfl)]
    rw [e] at h1 ⊢
    show (match M.chs _ (text.flatMap (chB 34 [92, 38]) ++ 34 :: r) with | some r => (r.1 + 1, r.2) | none => (0, [])) = _
    rw [h1]
    simp [quM]
  have hl : (quM 34 [92, 38] text).length ≠ 0 := by simp [quM]
  refine ⟨by simp [quM], fun r hr => ?_, ⟨6, fun r hr => ?_, ?_⟩, fun x hx => ?_⟩
  · unfold quM
    rw [List.cons_append]
    exact pass_cls 34 _ (by rw [cls34]; omega) (by rw [cls34]; omega) (by rw [cls34]; omega)
  · have h1 := hch r
    have e : ∃ t, quM 34 [92, 38] text ++ r = 34 :: t := ⟨_, by unfold quM; rw [List.cons_append]⟩
    obtain ⟨t, e⟩ := e
    rw [e] at h1 ⊢
    rw [M.lex1_cons, cls34]
    show M.nz 6 (M.chars (34 :: t)).1 = _
    rw [h1]
    exact nz_pos hl
  · have h1 := hch []
    rw [List.append_nil] at h1
    show M.resv (M.mkTok 7 (quM 34 [92, 38] text)) = _
    unfold M.mkTok
    rw [if_neg (by decide), if_neg (by decide), if_pos rfl, h1]
    rfl
  · unfold quM at hx
    rcases List.mem_cons.1 hx with rfl | hx
    · decide
    · rcases List.mem_append.1 hx with hx | hx
      · obtain ⟨c, -, hc⟩ := List.mem_flatMap.1 hx
        exact chB_ok 34 [92, 38] c (.inr rfl) (by decide) x hc
      · rw [List.mem_singleton] at hx; subst hx; decide

end Go.Proofs.YtndpebkiiemfpaaGreatDoor

namespace Go.Proofs.YtndpebkiiemfpaaGreatDoor

/-- What is so of each token of a text. -/
def Placed (a n : Nat) (last : Nat) (ts : List M.Tk) : Prop :=
  ∀ i (h : i < ts.length), a ≤ ts[i].pos ∧ ts[i].pos < a + n ∧ 1 ≤ ts[i].line ∧ 1 ≤ ts[i].col ∧
    (∀ h0 : i = 0, ts[i].first = decide (ts[i].line ≠ last)) ∧ (∀ h0 : 0 < i, ts[i].first = decide (ts[i].line ≠ ts[i - 1].line) ∧ ts[i - 1].pos < ts[i].pos)

theorem placed_cons (a n last : Nat) (t : M.Tk) (ts : List M.Tk) (a' : Nat) (h1 : a ≤ t.pos) (h2 : t.pos < a') (h2' : a' ≤ a + n) (h3 : 1 ≤ t.line) (h4 : 1 ≤ t.col) (h5 : t.first = decide (t.line ≠ last))
    (ht : Placed a' (a + n - a') t.line ts) : Placed a n last (t :: ts) := by
  intro i h
  match i, h with
  | 0, _ => exact ⟨h1, by show t.pos < a + n; omega, h3, h4, fun _ => h5, fun h0 => absurd h0 (by omega)⟩
  | i + 1, h =>
    have h' : i < ts.length := by simpa using h
    obtain ⟨k1, k2, k3, k4, k5, k6⟩ := ht i h'
    have hp : (t :: ts)[i + 1] = ts[i] := rfl
    refine ⟨by rw [hp]; omega, by rw [hp]; omega, k3, k4, fun h0 => absurd h0 (by omega), fun _ => ?_⟩
    match i, h' with
    | 0, h' =>
      have := k5 rfl
      refine ⟨this, ?_⟩
      show t.pos < ts[0].pos
      omega
    | j + 1, h' => exact k6 (by omega)

theorem scan_placed : ∀ (f a : Nat) (p : Nat × Nat) (last : Nat) (l : List UInt8) (ts : List M.Tk), 1 ≤ p.1 → 1 ≤ p.2 → M.scan f a p last l = .inr ts → Placed a l.length last ts
  | 0, a, p, last, l, ts, _, _, h => by simp [M.scan] at h
  | f + 1, a, p, last, l, ts, hp1, hp2, h => by
    unfold M.scan at h
    split at h
    · cases h
      intro i hi; simp at hi
    · split at h
      · simp at h
      · rename_i h1 h2
        have hil := M.idleAll_le' l
        have hle := M.lex1_le (l.drop (M.idleAll l))
        rw [List.length_drop] at hle
        have m1 := mv_line (l.take (M.idleAll l)) p
        have m2 := mv_line (l.take (M.idleAll l + (M.lex1 (l.drop (M.idleAll l))).2)) p
        cases hc : M.scan f (a + M.idleAll l + (M.lex1 (l.drop (M.idleAll l))).2) (M.mv p (l.take (M.idleAll l + (M.lex1 (l.drop (M.idleAll l))).2))) (M.mv p (l.take (M.idleAll l))).1 (l.drop (M.idleAll l + (M.lex1 (l.drop (M.idleAll l))).2)) with
        | inl e => rw [hc] at h; simp at h
        | inr ts' =>
          rw [hc] at h
          simp only [Sum.inr.injEq] at h
          subst h
          have ih := scan_placed f _ _ _ _ _ (by omega) (m2.2.2.1 hp2) hc
          rw [List.length_drop] at ih
          refine placed_cons a l.length last _ ts' (a + M.idleAll l + (M.lex1 (l.drop (M.idleAll l))).2) (by simp only; omega) (by simp only; omega) (by omega) (by simp only; omega) (m1.2.2.1 hp2) rfl ?_
          have he : a + l.length - (a + M.idleAll l + (M.lex1 (l.drop (M.idleAll l))).2) = l.length - (M.idleAll l + (M.lex1 (l.drop (M.idleAll l))).2) := by omega
          rw [he]
          exact ih
theorem all_placed (l : List UInt8) (ts : List M.Tk) (h : M.scanAll l = .inr ts) : Placed 0 l.length 0 ts := scan_placed _ _ _ _ _ _ (by decide) (by decide) h

theorem placed_len (n : Nat) (ts : List M.Tk) (h : Placed 0 n 0 ts) : ts.length ≤ n := by
  have key : ∀ i (hi : i < ts.length), i ≤ ts[i].pos := by
    intro i
    induction i with
    | zero => intro _; omega
    | succ i ih =>
      intro hi
      have h1 := ih (by omega)
      have h2 := ((h (i + 1) hi).2.2.2.2.2 (by omega)).2
      have h3 : ts[i + 1 - 1].pos = ts[i].pos := by simp
      omega
  rcases Nat.eq_zero_or_pos ts.length with h0 | h0
  · omega
  · have h1 := key (ts.length - 1) (by omega)
    have h2 := (h (ts.length - 1) (by omega)).2.1
    omega

/-! Between two tokens there are blanks and remarks alone. -/
theorem scan_one (f a : Nat) (p : Nat × Nat) (last : Nat) (l : List UInt8) (n i : Nat) (k : Nat) (hp : M.pass1 l = 0) (hk : M.lex1 l = (k, n)) (hn : n ≠ 0) (hi : M.idleAll (l.drop n) = i) (hf : 2 ≤ f) :
    M.scan f a p last (l.take (n + i)) = .inr [⟨M.resv (M.mkTok (k + 1) (l.take n)), a, p.1, p.2, decide (p.1 ≠ last)⟩] := by
  obtain ⟨f', rfl⟩ : ∃ f', f = f' + 1 + 1 := ⟨f - 2, by omega⟩
  have hle : n ≤ l.length := by have := M.lex1_le l; rw [hk] at this; exact this
  have hz : M.idleAll (l.take (n + i)) = 0 := M.idleAll_zero _ (M.pass1_zero_take l (n + i) hp (by rw [hk]; exact hn) (by rw [hk]; simp only; omega))
  have hlx : M.lex1 (l.take (n + i)) = (k, n) := by rw [M.lex1_take l (n + i) (by rw [hk]; exact hn) (by rw [hk]; simp only; omega), hk]
  have hne : ¬ ((l.take (n + i)).drop 0).isEmpty = true := by
    rw [List.drop_zero, List.isEmpty_iff]
    intro h
    have := congrArg List.length h
    rw [List.length_take, List.length_nil] at this
    omega
  have hd : (l.take (n + i)).drop (0 + n) = (l.drop n).take i := by rw [Nat.zero_add, M.drop_take']; congr 1; omega
  have hid : M.idleAll ((l.drop n).take i) = i := by rw [← hi]; exact M.idleAll_take _ _ (Nat.le_refl _)
  rw [M.scan, hz, if_neg hne, List.drop_zero, hlx, if_neg hn, hd]
  have h2 : ∀ (a : Nat) (p : Nat × Nat) (last : Nat), M.scan (f' + 1) a p last ((l.drop n).take i) = .inr [] := by
    intro a p last
    rw [M.scan, hid, if_pos]
    rw [List.isEmpty_iff]
    apply List.drop_eq_nil_of_le
    rw [List.length_take]; omega
  rw [h2]
  simp only [List.take_zero, Nat.add_zero]
  rw [List.take_take, Nat.min_eq_left (by omega)]
  rfl
theorem scan_idle (f a : Nat) (p : Nat × Nat) (last : Nat) (l : List UInt8) (hf : 1 ≤ f) : M.scan f a p last (l.take (M.idleAll l)) = .inr [] := by
  obtain ⟨f', rfl⟩ : ∃ f', f = f' + 1 := ⟨f - 1, by omega⟩
  rw [M.scan, M.idleAll_take _ _ (Nat.le_refl _), if_pos]
  rw [List.isEmpty_iff]
  apply List.drop_eq_nil_of_le
  rw [List.length_take]; omega

end Go.Proofs.YtndpebkiiemfpaaGreatDoor

namespace Go.Proofs.YtndpebkiiemfpaaGreatDoor

/-- Where token i begins; behind the last one: where the text ends. -/
def segAt (ts : List M.Tk) (n i : Nat) : Nat := if h : i < ts.length then ts[i].pos else n
theorem segAt_succ (t : M.Tk) (ts : List M.Tk) (n i : Nat) : segAt (t :: ts) n (i + 1) = segAt ts n i := by
  unfold segAt
  by_cases h : i < ts.length
  · rw [dif_pos h, dif_pos (by simpa using h)]; rfl
  · rw [dif_neg h, dif_neg (by simpa using h)]

theorem scan_segs (L : List UInt8) : ∀ (f a : Nat) (p : Nat × Nat) (last : Nat) (ts : List M.Tk), M.scan f a p last (L.drop a) = .inr ts → a ≤ L.length →
    segAt ts L.length 0 = a + M.idleAll (L.drop a) ∧
    ∀ i (h : i < ts.length), ts[i].pos ≤ segAt ts L.length (i + 1) ∧ M.scanAll ((L.drop ts[i].pos).take (segAt ts L.length (i + 1) - ts[i].pos)) = .inr [⟨ts[i].t, 0, 1, 1, true⟩]
  | 0, a, p, last, ts, h, _ => by simp [M.scan] at h
  | f + 1, a, p, last, ts, h, ha => by
    have hil := M.idleAll_le' (L.drop a)
    rw [List.length_drop] at hil
    unfold M.scan at h
    split at h
    · rename_i h1
      cases h
      refine ⟨?_, fun i hi => by simp at hi⟩
      rw [List.isEmpty_iff, List.drop_drop, List.drop_eq_nil_iff] at h1
      show L.length = _
      omega
    · split at h
      · simp at h
      · rename_i h1 h2
        rw [List.drop_drop] at h h2
        rw [List.drop_drop] at h
        obtain ⟨I, hI⟩ : ∃ I, M.idleAll (L.drop a) = I := ⟨_, rfl⟩
        have hst := M.idleAll_stop _ (L.drop a) (Nat.le_refl _)
        rw [hI, List.drop_drop] at hst
        rw [hI] at h h2 hil ⊢
        obtain ⟨⟨k, n⟩, hkn⟩ : ∃ r, M.lex1 (L.drop (a + I)) = r := ⟨_, rfl⟩
        rw [hkn] at h h2
        simp only at h h2
        have hle := M.lex1_le (L.drop (a + I))
        rw [hkn, List.length_drop] at hle
        simp only at hle
        cases hc : M.scan f (a + I + n) (M.mv p ((L.drop a).take (I + n))) (M.mv p ((L.drop a).take I)).1 (L.drop (a + (I + n))) with
        | inl e => rw [hc] at h; simp at h
        | inr ts' =>
          rw [hc] at h
          simp only [Sum.inr.injEq] at h
          subst h
          rw [← Nat.add_assoc] at hc
          have ih := scan_segs L f (a + I + n) _ _ ts' hc (by omega)
          refine ⟨rfl, fun i hi => ?_⟩
          match i, hi with
          | 0, _ =>
            rw [segAt_succ, ih.1]
            show a + I ≤ _ ∧ M.scanAll ((L.drop (a + I)).take (a + I + n + M.idleAll (L.drop (a + I + n)) - (a + I))) = _
            have he : a + I + n + M.idleAll (L.drop (a + I + n)) - (a + I) = n + M.idleAll (L.drop (a + I + n)) := by omega
            refine ⟨by omega, ?_⟩
            rw [he]
            unfold M.scanAll
            rw [scan_one _ 0 (1, 1) 0 (L.drop (a + I)) n (M.idleAll (L.drop (a + I + n))) k hst hkn h2 (by rw [List.drop_drop]) (by rw [List.length_take, List.length_drop]; omega)]
            rfl
          | i + 1, hi =>
            have hi' : i < ts'.length := by simpa using hi
            rw [segAt_succ]
            exact ih.2 i hi'

theorem all_segs (L : List UInt8) (ts : List M.Tk) (h : M.scanAll L = .inr ts) :
    M.scanAll (L.take (segAt ts L.length 0)) = .inr [] ∧
    ∀ i (h : i < ts.length), ts[i].pos ≤ segAt ts L.length (i + 1) ∧ M.scanAll ((L.drop ts[i].pos).take (segAt ts L.length (i + 1) - ts[i].pos)) = .inr [⟨ts[i].t, 0, 1, 1, true⟩] := by
  have := scan_segs L (L.length + 1) 0 (1, 1) 0 ts h (Nat.zero_le _)
  refine ⟨?_, this.2⟩
  rw [this.1, Nat.zero_add, List.drop_zero]
  exact scan_idle _ _ _ _ _ (by omega)

theorem segAt_le (n : Nat) (ts : List M.Tk) (h : Placed 0 n 0 ts) (i : Nat) : segAt ts n i ≤ n := by
  unfold segAt
  split
  · rename_i hi; have := (h i hi).2.1; omega
  · exact Nat.le_refl _

/-- A part of a text that may be may be. -/
theorem fb_all : ∀ (l : List UInt8) (i : Nat), fb l i = (0, 0) ↔ ∀ b ∈ l, okB b = true
  | [], i => by simp [fb]
  | b :: l, i => by
    unfold fb
    by_cases h : okB b = true
    · rw [if_pos h, fb_all l (i + 1)]; simp [h]
    · rw [if_neg h]; simp [h]
theorem chk_part (s X : ByteArray) (h : chk s = (0, 0)) (hl : X.size ≤ s.size) (hx : ∀ b ∈ X.data.toList, b ∈ s.data.toList) : chk X = (0, 0) := by
  unfold chk at h ⊢
  by_cases h1 : 65536 < s.size
  · rw [if_pos h1] at h; simp at h
  · rw [if_neg h1, fb_all] at h
    rw [if_neg (by omega), fb_all]
    exact fun b hb => h b (hx b hb)
theorem chk_extract (s : ByteArray) (a e : Nat) (h : chk s = (0, 0)) : chk (s.extract a e) = (0, 0) := by
  have he : (s.extract a e).data.toList = (s.data.toList.drop a).take (e - a) := by rw [Lib.extract_eq]
  refine chk_part s _ h ?_ ?_
  · rw [Lib.size_eq, he, List.length_take, List.length_drop, ← Lib.size_eq]; omega
  · intro b hb
    rw [he] at hb
    exact List.mem_of_mem_drop (List.mem_of_mem_take hb)

theorem chk_cases (s : ByteArray) : chk s = (0, 0) ∨ (chk s).1 ≠ 0 := by
  by_cases h : (chk s).1 = 0
  · left
    have key : ∀ (l : List UInt8) (i : Nat), (fb l i).1 = 0 → fb l i = (0, 0) := by
      intro l
      induction l with
      | nil => intro i _; rfl
      | cons b l ih =>
        intro i h
        unfold fb at h ⊢
        split
        · rename_i h1; rw [if_pos h1] at h; exact ih _ h
        · rename_i h1; rw [if_neg h1] at h; simp at h
    unfold chk at h ⊢
    split
    · rename_i h1; rw [if_pos h1] at h; simp at h
    · rename_i h1; rw [if_neg h1] at h; exact key _ _ h
  · exact .inr h

end Go.Proofs.YtndpebkiiemfpaaGreatDoor

namespace Go.Proofs.YtndpebkiiemfpaaGreatDoor
open Go.RowKit Go.Shelf Go.Maps
set_option linter.unusedVariables false

theorem nz_eq {c x k n : Nat} (h : M.nz c x = (k, n)) (hn : n ≠ 0) : k = c ∧ n = x := by
  unfold M.nz at h
  split at h
  · simp only [Prod.mk.injEq] at h; omega
  · simp only [Prod.mk.injEq] at h; omega
theorem cls_eq (b : UInt8) : M.begName b = (M.cls b == 0) ∧ M.capB b = (M.cls b == 1) ∧ M.begOp b = (M.cls b == 2) ∧ M.colonB b = (M.cls b == 3) ∧ M.digB b = (M.cls b == 4) ∧ decide (b.toNat = 39) = (M.cls b == 5) ∧ decide (b.toNat = 34) = (M.cls b == 6) ∧ M.markL.contains b = (M.cls b == 7) ∧ M.cls b ≤ 8 := M.cls_facts b
def plainU (k : Nat) : Prop := k = 1 ∨ k = 2 ∨ k = 3 ∨ k = 4 ∨ k = 8 ∨ k = 9 ∨ k = 10
theorem txM_plainU (k : Nat) (h : plainU k) (tx : List UInt8) (n : Int) : txM (k : Int) tx n = tx := by
  unfold plainU at h
  unfold txM
  rw [if_neg (by omega), if_neg (by omega), if_neg (by omega), if_pos (by omega)]
theorem resv_kind (k : Nat) (lx : List UInt8) : (M.resv ⟨k, lx, 0⟩).text = lx ∧ ((M.resv ⟨k, lx, 0⟩).kind = k ∨ (k = 1 ∧ (M.resv ⟨k, lx, 0⟩).kind = 9) ∨ (k = 3 ∧ (M.resv ⟨k, lx, 0⟩).kind = 10)) := by
  unfold M.resv
  split
  · rename_i h; exact ⟨rfl, .inr (.inl ⟨h.1, rfl⟩)⟩
  · split
    · rename_i h; exact ⟨rfl, .inr (.inr ⟨h.1, rfl⟩)⟩
    · exact ⟨rfl, .inl rfl⟩
theorem txM_resv (k : Nat) (hk : k = 1 ∨ k = 2 ∨ k = 3 ∨ k = 4 ∨ k = 8) (lx : List UInt8) : txM ((M.resv ⟨k, lx, 0⟩).kind : Int) (M.resv ⟨k, lx, 0⟩).text ((M.resv ⟨k, lx, 0⟩).num : Int) = lx := by
  obtain ⟨h1, h2⟩ := resv_kind k lx
  rw [h1]
  refine txM_plainU _ ?_ _ _
  unfold plainU
  omega
/-- A run, cut out of a text. -/
theorem run_parts (p q : UInt8 → Bool) (b : UInt8) (l : List UInt8) (hb : p b = true) : (b :: l).take (M.headed p q (b :: l)) = b :: l.take (M.cnt q l) ∧ ∀ x ∈ l.take (M.cnt q l), q x = true := by
  rw [M.headed_cons, if_pos hb]
  exact ⟨by rw [List.take_succ_cons], M.cnt_all q l⟩
theorem sym_beg : ∀ b : UInt8, (!M.sym b || (!M.blankB b && decide (¬ b.toNat = 123))) = true := M.all256 _ (by decide +kernel)
theorem pass_sym (b : UInt8) (l r : List UInt8) (hs : M.sym b = true) (hp : M.pass1 (b :: l) = 0) (hr : Aft r) : M.pass1 (b :: (l.take (M.cnt M.sym l) ++ r)) = 0 := by
  have hk := or_of (sym_beg b) hs
  simp only [Bool.and_eq_true, Bool.not_eq_true', decide_eq_true_eq] at hk
  cases hd : M.dashB b with
  | false => exact pass_other b _ hk.1 hd hk.2
  | true =>
    rw [M.pass1_cons, if_neg (by rw [hk.1]; simp), if_pos hd] at hp ⊢
    rw [M.passDashes_def] at hp ⊢
    have hc1 : M.cnt M.sym (b :: l) = M.cnt M.sym l + 1 := by show (if M.sym b = true then _ else 0) = _; rw [if_pos hs]
    have hlen : (l.take (M.cnt M.sym l)).length = M.cnt M.sym l := by rw [List.length_take]; have := M.cnt_le M.sym l; omega
    have hc2 : M.cnt M.sym (b :: (l.take (M.cnt M.sym l) ++ r)) = M.cnt M.sym l + 1 := by
      show (if M.sym b = true then M.cnt M.sym (l.take (M.cnt M.sym l) ++ r) + 1 else 0) = _
      rw [if_pos hs, cnt_app M.sym _ r (M.cnt_all M.sym l) (aft_cnt _ (by decide) hr), hlen]
    have ht1 : (b :: l).take (M.cnt M.sym l + 1) = b :: l.take (M.cnt M.sym l) := by rw [List.take_succ_cons]
    have ht2 : (b :: (l.take (M.cnt M.sym l) ++ r)).take (M.cnt M.sym l + 1) = b :: l.take (M.cnt M.sym l) := by
      rw [List.take_succ_cons]
      congr 1
      rw [List.take_append_of_le_length (by omega), List.take_of_length_le (by omega)]
    rw [hc1, ht1] at hp
    rw [hc2, ht2]
    by_cases hcond : M.cnt M.sym l + 1 < 2 ∨ (b :: l.take (M.cnt M.sym l)).all M.dashB = false
    · rw [if_pos hcond]
    · rw [if_neg hcond] at hp
      exfalso
      have : M.notNL b = true := M.sym_notNL b hs
      have h2 : M.cnt M.notNL (b :: l) = M.cnt M.notNL l + 1 := by show (if M.notNL b = true then _ else 0) = _; rw [if_pos this]
      omega
/-- What a text's first lexeme is told as is read as the same token. -/
theorem good_of_lex (l : List UInt8) (k n : Nat) (hp : M.pass1 l = 0) (hl : M.lex1 l = (k, n)) (hn : n ≠ 0) :
    Good (M.resv (M.mkTok (k + 1) (l.take n))) (txM ((M.resv (M.mkTok (k + 1) (l.take n))).kind : Int) (M.resv (M.mkTok (k + 1) (l.take n))).text ((M.resv (M.mkTok (k + 1) (l.take n))).num : Int)) := by
  obtain ⟨b, l', rfl, hb⟩ := lex_parts l k n hl hn
  have hf := cls_eq b
  have hcs : M.cls b = 0 ∨ M.cls b = 1 ∨ M.cls b = 2 ∨ M.cls b = 3 ∨ M.cls b = 4 ∨ M.cls b = 5 ∨ M.cls b = 6 ∨ M.cls b = 7 ∨ M.cls b = 8 := by omega
  rcases hcs with hc | hc | hc | hc | hc | hc | hc | hc | hc
  · rw [hc] at hb
    obtain ⟨rfl, rfl⟩ := nz_eq (c := 0) hb hn
    have hbe : M.begName b = true := by rw [hf.1, hc]; rfl
    obtain ⟨e, hall⟩ := run_parts M.begName M.inName b l' hbe
    rw [e]
    rw [show M.mkTok (0 + 1) (b :: l'.take (M.cnt M.inName l')) = ⟨1, b :: l'.take (M.cnt M.inName l'), 0⟩ from rfl, txM_resv 1 (by omega)]
    have hin : M.inName b = true := by
      have key : ∀ b : UInt8, (!M.begName b || M.inName b) = true := M.all256 _ (by decide +kernel)
      exact or_of (key b) hbe
    exact good_run 0 0 M.begName M.inName _ b _ hbe hall (by decide) hc (fun _ => rfl) (fun r _ => pass_cls b _ (by omega) (by omega) (by omega)) rfl (fun x hx => by
      rcases List.mem_cons.1 hx with rfl | hx
      · exact or_of (ok_name x) hin
      · exact or_of (ok_name x) (hall x hx))
  · rw [hc] at hb
    obtain ⟨rfl, rfl⟩ := nz_eq (c := 1) hb hn
    have hbe : M.capB b = true := by rw [hf.2.1, hc]; rfl
    obtain ⟨e, hall⟩ := run_parts M.capB M.inName b l' hbe
    rw [e]
    rw [show M.mkTok (1 + 1) (b :: l'.take (M.cnt M.inName l')) = ⟨2, b :: l'.take (M.cnt M.inName l'), 0⟩ from rfl, txM_resv 2 (by omega)]
    have hin : M.inName b = true := by
      have key : ∀ b : UInt8, (!M.capB b || M.inName b) = true := M.all256 _ (by decide +kernel)
      exact or_of (key b) hbe
    exact good_run 1 1 M.capB M.inName _ b _ hbe hall (by decide) hc (fun _ => rfl) (fun r _ => pass_cls b _ (by omega) (by omega) (by omega)) rfl (fun x hx => by
      rcases List.mem_cons.1 hx with rfl | hx
      · exact or_of (ok_name x) hin
      · exact or_of (ok_name x) (hall x hx))
  · rw [hc] at hb
    obtain ⟨rfl, rfl⟩ := nz_eq (c := 2) hb hn
    have hbe : M.begOp b = true := by rw [hf.2.2.1, hc]; rfl
    have hsy : M.sym b = true := by unfold M.begOp at hbe; simp only [Bool.and_eq_true] at hbe; exact hbe.1
    obtain ⟨e, hall⟩ := run_parts M.begOp M.sym b l' hbe
    rw [e]
    rw [show M.mkTok (2 + 1) (b :: l'.take (M.cnt M.sym l')) = ⟨3, b :: l'.take (M.cnt M.sym l'), 0⟩ from rfl, txM_resv 3 (by omega)]
    exact good_run 2 2 M.begOp M.sym _ b _ hbe hall (by decide) hc (fun _ => rfl) (fun r hr => pass_sym b l' r hsy hp hr) rfl (fun x hx => by
      rcases List.mem_cons.1 hx with rfl | hx
      · exact or_of (ok_sym x) hsy
      · exact or_of (ok_sym x) (hall x hx))
  · rw [hc] at hb
    obtain ⟨rfl, rfl⟩ := nz_eq (c := 3) hb hn
    have hbe : M.colonB b = true := by rw [hf.2.2.2.1, hc]; rfl
    have hsy : M.sym b = true := by
      have key : ∀ b : UInt8, (!M.colonB b || M.sym b) = true := M.all256 _ (by decide +kernel)
      exact or_of (key b) hbe
    obtain ⟨e, hall⟩ := run_parts M.colonB M.sym b l' hbe
    rw [e]
    rw [show M.mkTok (3 + 1) (b :: l'.take (M.cnt M.sym l')) = ⟨4, b :: l'.take (M.cnt M.sym l'), 0⟩ from rfl, txM_resv 4 (by omega)]
    exact good_run 3 3 M.colonB M.sym _ b _ hbe hall (by decide) hc (fun _ => rfl) (fun r hr => pass_sym b l' r hsy hp hr) rfl (fun x hx => by
      rcases List.mem_cons.1 hx with rfl | hx
      · exact or_of (ok_sym x) hsy
      · exact or_of (ok_sym x) (hall x hx))
  · rw [hc] at hb
    obtain ⟨rfl, hnn⟩ := nz_eq (c := 4) hb hn
    show Good (M.resv ⟨5, [], (M.number ((b :: l').take n)).2⟩) (txM 5 [] ((M.number ((b :: l').take n)).2 : Int))
    have hv := M.number_val ((b :: l').take n)
    generalize (M.number ((b :: l').take n)).2 = v at hv ⊢
    have e : txM 5 [] (v : Int) = Lib.decDigits v := by
      unfold txM
      rw [if_pos rfl, show max (v : Int) 0 = (v : Int) by omega, Lib.itoa_nonneg]
    rw [e]
    exact good_int v hv
  · rw [hc] at hb
    obtain ⟨rfl, hnn⟩ := nz_eq (c := 5) hb hn
    show Good (M.resv ⟨6, [], (M.character 39 (((b :: l').take n).drop 1)).2⟩) (txM 6 [] ((M.character 39 (((b :: l').take n).drop 1)).2 : Int))
    have hv := M.character_val 39 (((b :: l').take n).drop 1)
    generalize (M.character 39 (((b :: l').take n).drop 1)).2 = v at hv ⊢
    have e : txM 6 [] (v : Int) = quM 39 [] [UInt8.ofNat v] := by
      unfold txM
      rw [if_neg (by omega), if_pos rfl, show min (max (v : Int) 0) 255 = (v : Int) by omega]
      rfl
    rw [e]
    have ev : (UInt8.ofNat v).toNat = v := by rw [UInt8.toNat_ofNat']; omega
    have := good_char (UInt8.ofNat v)
    rw [ev] at this
    exact this
  · rw [hc] at hb
    obtain ⟨rfl, hnn⟩ := nz_eq (c := 6) hb hn
    show Good (M.resv ⟨7, (M.chars ((b :: l').take n)).2, 0⟩) (txM 7 (M.chars ((b :: l').take n)).2 0)
    generalize (M.chars ((b :: l').take n)).2 = v
    exact good_str v
  · rw [hc] at hb
    obtain ⟨rfl, hnn⟩ := nz_eq (c := 7) hb hn
    have hm : M.markL.contains b = true := by rw [hf.2.2.2.2.2.2.2.1, hc]; rfl
    have hn1 : n = 1 := by
      rw [M.takeMark_cons] at hnn
      split at hnn
      · omega
      · exact hnn
    subst hn1
    show Good (M.resv ⟨8, [b], 0⟩) (txM 8 [b] 0)
    have e : txM 8 [b] 0 = [b] := txM_plainU 8 (by unfold plainU; omega) [b] 0
    rw [e]
    exact good_mark b hm
  · rw [hc] at hb
    have : (0, 0) = (k, n) := hb
    simp only [Prod.mk.injEq] at this
    omega

/-- Texts, each with a blank ahead. -/
def tl : List (List UInt8) → List UInt8
  | [] => []
  | u :: us => 32 :: (u ++ tl us)
def joinM : List (List UInt8) → List UInt8
  | [] => []
  | u :: us => u ++ tl us
theorem tl_aft (us : List (List UInt8)) : Aft (tl us) := by
  cases us with
  | nil => exact .inl rfl
  | cons u us => exact .inr ⟨_, rfl⟩
theorem good_nb {t : M.T0} {u : List UInt8} (h : Good t u) (r : List UInt8) (hr : Aft r) : M.cnt M.blankB (u ++ r) = 0 := by
  have hp := h.pass r hr
  cases hu : u with
  | nil => exact absurd hu h.ne
  | cons b u' =>
    rw [hu, List.cons_append] at hp
    show (if M.blankB b = true then M.cnt M.blankB (u' ++ r) + 1 else 0) = 0
    rw [M.pass1_cons] at hp
    cases hb : M.blankB b with
    | false => rfl
    | true =>
      rw [if_pos hb] at hp
      have : M.cnt M.blankB (b :: (u' ++ r)) = M.cnt M.blankB (u' ++ r) + 1 := by show (if M.blankB b = true then _ else 0) = _; rw [if_pos hb]
      omega
theorem idle_tl {t : M.T0} {u : List UInt8} (h : Good t u) (r : List UInt8) (hr : Aft r) : M.idleAll (32 :: (u ++ r)) = 1 := by
  have h1 : M.pass1 (32 :: (u ++ r)) = 1 := by
    rw [M.pass1_cons, if_pos (by decide)]
    show (if M.blankB 32 = true then M.cnt M.blankB (u ++ r) + 1 else 0) = 1
    rw [if_pos (by decide), good_nb h r hr]
  rw [M.idleAll_step, if_neg (by omega), h1]
  show 1 + M.idleAll (u ++ r) = 1
  rw [M.idleAll_zero _ (h.pass r hr)]
theorem scan_step {t : M.T0} {u : List UInt8} (h : Good t u) (r l : List UInt8) (hr : Aft r) (i f : Nat) (hi : M.idleAll l = i) (hd : l.drop i = u ++ r) (X : List M.T0) (ih : ∀ a p last, ∃ ms, M.scan f a p last r = .inr ms ∧ ms.map (·.t) = X) (a : Nat) (p : Nat × Nat) (last : Nat) :
    ∃ ms, M.scan (f + 1) a p last l = .inr ms ∧ ms.map (·.t) = t :: X := by
  obtain ⟨k, hk, hmk⟩ := h.lex
  have hlx := hk r hr
  have hne : (u ++ r).isEmpty = false := by
    cases hu : u with
    | nil => exact absurd hu h.ne
    | cons b u' => rfl
  have hul : u.length ≠ 0 := fun e => h.ne (List.length_eq_zero_iff.1 e)
  have hdr : l.drop (i + u.length) = r := by rw [← List.drop_drop, hd, List.drop_left]
  obtain ⟨ms, h1, h2⟩ := ih (a + i + u.length) (M.mv p (l.take (i + u.length))) (M.mv p (l.take i)).1
  refine ⟨⟨t, a + i, (M.mv p (l.take i)).1, (M.mv p (l.take i)).2, decide ((M.mv p (l.take i)).1 ≠ last)⟩ :: ms, ?_, by rw [List.map_cons, h2]⟩
  unfold M.scan
  rw [hi, hd, hlx]
  simp only
  rw [hne, hdr, h1, List.take_left, hmk]
  simp [hul]
theorem scan_tl : ∀ (tus : List (M.T0 × List UInt8)), (∀ x ∈ tus, Good x.1 x.2) → ∀ (f : Nat), tus.length < f → ∀ a p last, ∃ ms, M.scan f a p last (tl (tus.map (·.2))) = .inr ms ∧ ms.map (·.t) = tus.map (·.1)
  | [], _, f, hf, a, p, last => by
    obtain ⟨f, rfl⟩ : ∃ g, f = g + 1 := ⟨f - 1, by simp at hf; omega⟩
    refine ⟨[], ?_, rfl⟩
    unfold M.scan
    rfl
  | x :: tus, hg, f, hf, a, p, last => by
    obtain ⟨f, rfl⟩ : ∃ g, f = g + 1 := ⟨f - 1, by simp at hf; omega⟩
    have hx := hg x (by simp)
    exact scan_step hx (tl (tus.map (·.2))) (32 :: (x.2 ++ tl (tus.map (·.2)))) (tl_aft _) 1 f (idle_tl hx _ (tl_aft _)) rfl (tus.map (·.1)) (scan_tl tus (fun y hy => hg y (by simp [hy])) f (by simpa using hf)) a p last
theorem tl_len : ∀ us : List (List UInt8), us.length ≤ (tl us).length
  | [] => Nat.le_refl _
  | u :: us => by
    have := tl_len us
    show us.length + 1 ≤ (u ++ tl us).length + 1
    rw [List.length_append]; omega
theorem scan_join (tus : List (M.T0 × List UInt8)) (hg : ∀ x ∈ tus, Good x.1 x.2) : ∃ ms, M.scanAll (joinM (tus.map (·.2))) = .inr ms ∧ ms.map (·.t) = tus.map (·.1) := by
  cases tus with
  | nil => exact ⟨[], rfl, rfl⟩
  | cons x tus =>
    have hx := hg x (by simp)
    have hl : tus.length < (joinM ((x :: tus).map (·.2))).length := by
      have h1 := tl_len (tus.map (·.2))
      have h2 : x.2.length ≠ 0 := fun e => hx.ne (List.length_eq_zero_iff.1 e)
      show tus.length < (x.2 ++ tl (tus.map (·.2))).length
      rw [List.length_append]
      rw [List.length_map] at h1
      omega
    exact scan_step hx (tl (tus.map (·.2))) (x.2 ++ tl (tus.map (·.2))) (tl_aft _) 0 _ (M.idleAll_zero _ (hx.pass _ (tl_aft _))) rfl (tus.map (·.1)) (scan_tl tus (fun y hy => hg y (by simp [hy])) _ hl) 0 (1, 1) 0
/-- All tokens of a text are told so that they are read again. -/
def tx0 (t : M.T0) : List UInt8 := txM (t.kind : Int) t.text (t.num : Int)
theorem scan_good : ∀ (f a : Nat) (p : Nat × Nat) (last : Nat) (l : List UInt8) (ts : List M.Tk), M.scan f a p last l = .inr ts → ∀ t ∈ ts, Good t.t (tx0 t.t)
  | 0, a, p, last, l, ts, h, t, ht => by simp [M.scan] at h
  | f + 1, a, p, last, l, ts, h, t, ht => by
    unfold M.scan at h
    split at h
    · simp at h; subst h; simp at ht
    · split at h
      · cases h
      · rename_i h1 h2
        have hgl := good_of_lex (l.drop (M.idleAll l)) (M.lex1 (l.drop (M.idleAll l))).1 (M.lex1 (l.drop (M.idleAll l))).2 (M.idleAll_stop _ l (Nat.le_refl _)) rfl h2
        split at h
        · cases h
        · rename_i ts' hs
          simp only [Sum.inr.injEq] at h
          subst h
          rcases List.mem_cons.1 ht with rfl | ht
          · exact hgl
          · exact scan_good f _ _ _ _ ts' hs t ht
theorem tl_ok : ∀ us : List (List UInt8), (∀ u ∈ us, ∀ b ∈ u, okB b = true) → ∀ b ∈ tl us, okB b = true
  | [], _, b, hb => by cases hb
  | u :: us, h, b, hb => by
    rcases List.mem_cons.1 hb with rfl | hb
    · decide
    · rcases List.mem_append.1 hb with hb | hb
      · exact h u (by simp) b hb
      · exact tl_ok us (fun v hv => h v (by simp [hv])) b hb
/-- What LexBack asks. -/
theorem back (l : List UInt8) (ts : List M.Tk) (h : M.scanAll l = .inr ts) (hlen : (joinM (ts.map fun t => tx0 t.t)).length ≤ 65536) : chk (bs (joinM (ts.map fun t => tx0 t.t))) = (0, 0) ∧ ∃ ms, M.scanAll (joinM (ts.map fun t => tx0 t.t)) = .inr ms ∧ ms.map (·.t) = ts.map (·.t) := by
  have hg : ∀ t ∈ ts, Good t.t (tx0 t.t) := scan_good _ _ _ _ _ ts h
  refine ⟨?_, ?_⟩
  · unfold chk
    rw [if_neg (by rw [bs_size]; omega)]
    rw [bs_list, fb_all]
    intro b hb
    cases ts with
    | nil => cases hb
    | cons t ts =>
      rcases List.mem_append.1 hb with hb | hb
      · exact (hg t (by simp)).ok b hb
      · refine tl_ok _ ?_ b hb
        intro u hu
        obtain ⟨t', ht', rfl⟩ := List.mem_map.1 hu
        exact (hg t' (by simp [ht'])).ok
  · have := scan_join (ts.map fun t => (t.t, tx0 t.t)) (by intro x hx; obtain ⟨t, ht, rfl⟩ := List.mem_map.1 hx; exact hg t ht)
    rw [List.map_map, List.map_map] at this
    exact this

end Go.Proofs.YtndpebkiiemfpaaGreatDoor
