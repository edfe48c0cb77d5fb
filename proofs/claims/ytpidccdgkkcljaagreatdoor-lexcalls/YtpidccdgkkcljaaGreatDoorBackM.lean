/-
  Plain mathematics: a token's lexeme, told and read again.
-/
import Derived.Test.YtpidccdgkkcljaaGreatDoorText
import Derived.Lib.ItoaMem
namespace Go.Proofs.YtpidccdgkkcljaaGreatDoor
open Go.RowKit Go.Shelf Go.Maps
set_option linter.unusedVariables false

/-- What may stand behind a lexeme: nothing, or a blank. -/
def Aft (r : List UInt8) : Prop := r = [] ∨ ∃ r', r = 32 :: r'
theorem aft_cnt (p : UInt8 → Bool) (hp : p 32 = false) {r : List UInt8} (h : Aft r) : M.cnt p r = 0 := by
  rcases h with rfl | ⟨r', rfl⟩
  · rfl
  · show (if p 32 = true then _ else 0) = 0
    rw [hp]; rfl
theorem cnt_app (p : UInt8 → Bool) (u r : List UInt8) (hu : ∀ b ∈ u, p b = true) (hr : M.cnt p r = 0) : M.cnt p (u ++ r) = u.length := by rw [M.cnt_append p u r hu, hr, Nat.add_zero]
/-- The digits of a number. -/
theorem dig_all : ∀ n : Nat, ∀ b ∈ Lib.decDigits n, M.digB b = true := by
  intro n
  induction n using Nat.strongRecOn with
  | _ n ih =>
    intro b hb
    rw [Lib.decDigits] at hb
    have key : ∀ d : Nat, d < 10 → M.digB (UInt8.ofNat (48 + d)) = true := by decide
    split at hb
    · rename_i h
      rw [List.mem_singleton] at hb; subst hb; exact key n h
    · rename_i h
      rcases List.mem_append.1 hb with hb | hb
      · exact ih (n / 10) (by omega) b hb
      · rw [List.mem_singleton] at hb; subst hb; exact key (n % 10) (by omega)
theorem val_app (a : Nat) (u v : List UInt8) : M.val 10 a (u ++ v) = M.val 10 (M.val 10 a u) v := by
  induction u generalizing a with
  | nil => rfl
  | cons b u ih => exact ih _
theorem val_dig : ∀ n : Nat, M.val 10 0 (Lib.decDigits n) = n := by
  intro n
  induction n using Nat.strongRecOn with
  | _ n ih =>
    rw [Lib.decDigits]
    have key : ∀ d : Nat, d < 10 → M.hexv (UInt8.ofNat (48 + d)) = d := by decide
    split
    · rename_i h
      show 0 * 10 + M.hexv (UInt8.ofNat (48 + n)) = n
      rw [key n h]; omega
    · rename_i h
      rw [val_app, ih (n / 10) (by omega)]
      show n / 10 * 10 + M.hexv (UInt8.ofNat (48 + n % 10)) = n
      rw [key (n % 10) (by omega)]; omega
theorem dig_ne (n : Nat) : Lib.decDigits n ≠ [] := by
  rw [Lib.decDigits]; split <;> simp
theorem dig_head : ∀ n : Nat, ∃ d t, Lib.decDigits n = d :: t ∧ (d = 48 → n = 0) := by
  intro n
  induction n using Nat.strongRecOn with
  | _ n ih =>
    rw [Lib.decDigits]
    split
    · rename_i h
      refine ⟨_, [], rfl, fun hd => ?_⟩
      have key : ∀ d : Nat, d < 10 → UInt8.ofNat (48 + d) = 48 → d = 0 := by decide
      exact key n h hd
    · rename_i h
      obtain ⟨d, t, he, hd⟩ := ih (n / 10) (by omega)
      refine ⟨d, t ++ [UInt8.ofNat (48 + n % 10)], by rw [he]; rfl, fun h48 => ?_⟩
      have := hd h48
      omega
theorem digs_dec (n bits : Nat) (hn : n < 2 ^ bits) (r : List UInt8) (hr : M.cnt M.digB r = 0) : M.digs 10 bits (Lib.decDigits n ++ r) = ((Lib.decDigits n).length, n) := by
  have hc : M.cnt (M.dig 10) (Lib.decDigits n ++ r) = (Lib.decDigits n).length := by rw [M.dig10]; exact cnt_app _ _ _ (dig_all n) hr
  have hl : (Lib.decDigits n).length ≠ 0 := fun e => dig_ne n (List.length_eq_zero_iff.1 e)
  unfold M.digs
  rw [hc, List.take_left, val_dig, if_neg (by omega)]
/-- A lexeme that is read as it was told. -/
structure Good (t : M.T0) (u : List UInt8) : Prop where
  ne : u ≠ []
  pass : ∀ r, Aft r → M.pass1 (u ++ r) = 0
  lex : ∃ k, (∀ r, Aft r → M.lex1 (u ++ r) = (k, u.length)) ∧ M.resv (M.mkTok (k + 1) u) = t
  ok : ∀ b ∈ u, okB b = true
theorem pass_other (b : UInt8) (l : List UInt8) (h1 : M.blankB b = false) (h2 : M.dashB b = false) (h3 : ¬ b.toNat = 123) : M.pass1 (b :: l) = 0 := by
  rw [M.pass1_cons, if_neg (by rw [h1]; simp), if_neg (by rw [h2]; simp), if_neg h3]
theorem pass_cls (b : UInt8) (l : List UInt8) (h : M.cls b ≠ 2) (h7 : M.cls b ≠ 7) (h8 : M.cls b ≠ 8) : M.pass1 (b :: l) = 0 := by
  have hf := M.pcls_facts b
  refine pass_other b l ?_ ?_ ?_
  · cases hb : M.blankB b with
    | false => rfl
    | true => exact absurd (hf.1 hb).2.2 h8
  · cases hb : M.dashB b with
    | false => rfl
    | true => exact absurd (hf.2.1 hb).2 h
  · intro hb
    exact absurd (hf.2.2.1 hb) h7
theorem nz_pos {k n : Nat} (h : n ≠ 0) : M.nz k n = (k, n) := by unfold M.nz; rw [if_neg h]

theorem good_int (n : Nat) (hn : n < 2 ^ 63) : Good ⟨5, [], n⟩ (Lib.decDigits n) := by
  obtain ⟨d, t, he, hd⟩ := dig_head n
  have hdig : M.digB d = true := dig_all n d (by rw [he]; simp)
  have hcl : M.cls d = 4 := by have := (M.cls_facts d).2.2.2.2.1; rw [hdig] at this; simpa using this.symm
  have hnum : ∀ r, Aft r → M.number (Lib.decDigits n ++ r) = ((Lib.decDigits n).length, n) := by
    intro r hr
    unfold M.number
    rw [if_neg ?_]
    · exact digs_dec n 63 hn r (aft_cnt _ (by decide) hr)
    · intro hx
      unfold M.isHexed at hx
      rw [he] at hx
      simp only [Bool.and_eq_true] at hx
      have h1 := hx.1
      by_cases h48 : d = 48
      · have hn0 := hd h48
        subst hn0
        have ht : t = [] := by
          have : Lib.decDigits 0 = [48] := by rw [Lib.decDigits]; rfl
          rw [this] at he
          simp at he
          exact he.2
        subst ht
        rcases hr with rfl | ⟨r', rfl⟩
        · simp [List.isPrefixOf] at h1
        · simp [List.isPrefixOf] at h1
      · have : ([48, 120] : List UInt8).isPrefixOf (d :: t ++ r) = false := by
          show (48 == d && _) = false
          have : ((48 : UInt8) == d) = false := beq_eq_false_iff_ne.2 (fun e => h48 e.symm)
          rw [this]; rfl
        rw [this] at h1
        cases h1
  have hl : (Lib.decDigits n).length ≠ 0 := by rw [he]; simp
  refine ⟨dig_ne n, fun r hr => ?_, ⟨4, fun r hr => ?_, ?_⟩, fun b hb => ?_⟩
  · rw [he]; exact pass_cls d _ (by omega) (by omega) (by omega)
  · have h1 := hnum r hr
    rw [he] at h1 ⊢
    show M.lex1 (d :: (t ++ r)) = _
    rw [M.lex1_cons, hcl]
    show M.nz 4 (M.number (d :: t ++ r)).1 = _
    rw [h1]
    exact nz_pos (by simp)
  · have h1 := hnum [] (.inl rfl)
    rw [List.append_nil] at h1
    show M.resv (M.mkTok 5 (Lib.decDigits n)) = _
    unfold M.mkTok
    rw [if_pos rfl, h1]
    rfl
  · have := dig_all n b hb
    have key : ∀ b : UInt8, (!M.digB b || okB b) = true := M.all256 _ (by decide +kernel)
    have := key b
    simp_all

/-- A lexeme that begins with one sort of byte, and goes on with another. -/
theorem good_run (k c : Nat) (p q : UInt8 → Bool) (t : M.T0) (b : UInt8) (u : List UInt8) (hb : p b = true) (hu : ∀ x ∈ u, q x = true) (hq : q 32 = false) (hcl : M.cls b = c) (hby : ∀ l, M.byCls c l = M.nz k (M.headed p q l)) (hps : ∀ r, Aft r → M.pass1 (b :: (u ++ r)) = 0) (hmk : M.resv (M.mkTok (k + 1) (b :: u)) = t) (hok : ∀ x ∈ b :: u, okB x = true) : Good t (b :: u) := by
  refine ⟨by simp, hps, ⟨k, fun r hr => ?_, hmk⟩, hok⟩
  show M.lex1 (b :: (u ++ r)) = _
  rw [M.lex1_cons, hcl, hby, M.headed_cons, if_pos hb, cnt_app q u r hu (aft_cnt q hq hr)]
  rw [nz_pos (by omega)]
  rfl
theorem ok_name : ∀ b : UInt8, (!M.inName b || okB b) = true := M.all256 _ (by decide +kernel)
theorem ok_sym : ∀ b : UInt8, (!M.sym b || okB b) = true := M.all256 _ (by decide +kernel)
theorem ok_mark : ∀ b : UInt8, (!M.markL.contains b || okB b) = true := M.all256 _ (by decide +kernel)
theorem ok_plain : ∀ b : UInt8, (!M.plainB b || okB b) = true := M.all256 _ (by decide +kernel)
theorem or_of {a b : Bool} (h : (!a || b) = true) (ha : a = true) : b = true := by subst ha; simpa using h

/-- What a text's lexeme is, by its sort. -/
theorem lex_parts (l : List UInt8) (k n : Nat) (hl : M.lex1 l = (k, n)) (hn : n ≠ 0) : ∃ b l', l = b :: l' ∧ M.byCls (M.cls b) l = (k, n) := by
  cases l with
  | nil => rw [M.lex1_nil] at hl; simp at hl; omega
  | cons b l' => exact ⟨b, l', rfl, by rw [← M.lex1_cons]; exact hl⟩
theorem good_mark (b : UInt8) (h : M.markL.contains b = true) : Good ⟨8, [b], 0⟩ [b] := by
  have hcl : M.cls b = 7 := by have := (M.cls_facts b).2.2.2.2.2.2.2.1; rw [h] at this; simpa using this.symm
  have h45 : ∀ r, Aft r → ([123, 45] : List UInt8).isPrefixOf ([b] ++ r) = false := by
    intro r hr
    rcases hr with rfl | ⟨r', rfl⟩
    · simp [List.isPrefixOf]
    · simp [List.isPrefixOf]
  have key : ∀ b : UInt8, (!M.markL.contains b || (!M.blankB b && !M.dashB b)) = true := M.all256 _ (by decide +kernel)
  have hk := or_of (key b) h
  simp only [Bool.and_eq_true, Bool.not_eq_true'] at hk
  refine ⟨by simp, fun r hr => ?_, ⟨7, fun r hr => ?_, rfl⟩, fun x hx => ?_⟩
  · show M.pass1 (b :: r) = 0
    rw [M.pass1_cons, if_neg (by rw [hk.1]; simp), if_neg (by rw [hk.2]; simp)]
    split
    · show (if ([123, 45] : List UInt8).isPrefixOf ([b] ++ r) then _ else 0) = 0
      rw [h45 r hr]; rfl
    · rfl
  · show M.lex1 (b :: r) = _
    rw [M.lex1_cons, hcl]
    show M.nz 7 (M.takeMark (b :: r)) = _
    rw [M.takeMark_cons]
    have := h45 r hr
    simp only [List.singleton_append] at this
    rw [this, h]
    rfl
  · simp at hx; subst hx; exact or_of (ok_mark x) h

/-- A character that is told, read again. -/
theorem char_short (q : UInt8) (bh : List UInt8) (c : UInt8) (hq : q = 39 ∨ q = 34) (h : (c = q ∨ c = 92) ∨ M.plainB c = true) (r : List UInt8) : M.character q (chB q bh c ++ r) = ((chB q bh c).length, c.toNat) := by
  unfold chB
  by_cases h1 : c = q ∨ c = 92
  · rw [if_pos h1]
    show M.character q (92 :: (c :: r)) = _
    rw [M.character_cons, if_neg (by rcases hq with rfl | rfl <;> decide), if_pos (by decide), M.escape_cons]
    have h92 : c.toNat = 92 ∨ c.toNat = 39 ∨ c.toNat = 34 := by
      rcases h1 with rfl | rfl
      · rcases hq with rfl | rfl <;> decide
      · decide
    rw [if_neg (by omega), if_neg (by omega), if_pos h92]
    rfl
  · have h2 : M.plainB c = true := by
      rcases h with h | h
      · exact absurd h h1
      · exact h
    rw [if_neg h1, if_pos h2]
    show M.character q (c :: r) = _
    have hq' : ¬ c = q := fun e => h1 (.inl e)
    have h92 : ¬ c.toNat = 92 := fun e => h1 (.inr (UInt8.toNat_inj.1 e))
    rw [M.character_cons, if_neg (by rintro (e | e); exact hq' e; rw [h2] at e; cases e), if_neg h92]
    rfl
theorem char_long (q c : UInt8) (hq : q = 39 ∨ q = 34) (r : List UInt8) (hr : M.cnt M.digB r = 0) : M.character q (92 :: (Lib.itoa (c.toNat : Int) ++ r)) = ((Lib.itoa (c.toNat : Int)).length + 1, c.toNat) := by
  rw [Lib.itoa_nonneg]
  obtain ⟨d, t, he, -⟩ := dig_head c.toNat
  have hdig : M.digB d = true := dig_all c.toNat d (by rw [he]; simp)
  have hds := digs_dec c.toNat 8 (by have := c.toNat_lt; omega) r hr
  rw [M.character_cons, if_neg (by rcases hq with rfl | rfl <;> decide), if_pos (by decide)]
  have hl : (Lib.decDigits c.toNat).length ≠ 0 := by rw [he]; simp
  have hesc : M.escape (Lib.decDigits c.toNat ++ r) = M.digs 10 8 (Lib.decDigits c.toNat ++ r) := by
    rw [he]
    show M.escape (d :: (t ++ r)) = _
    rw [M.escape_cons]
    simp only [M.digB, decide_eq_true_eq] at hdig
    rw [if_neg (by omega), if_neg (by omega), if_neg (by omega), if_neg (by omega)]
    rfl
  rw [hesc, hds]
  unfold M.up
  rw [if_neg hl]
theorem chB_long (q : UInt8) (bh : List UInt8) (c : UInt8) (h : ¬ ((c = q ∨ c = 92) ∨ M.plainB c = true)) : chB q bh c = 92 :: (Lib.itoa (c.toNat : Int) ++ bh) := by
  unfold chB
  rw [if_neg (fun e => h (.inl e)), if_neg (fun e => h (.inr e))]
theorem chB_ok (q : UInt8) (bh : List UInt8) (c : UInt8) (hq : q = 39 ∨ q = 34) (hb : ∀ x ∈ bh, okB x = true) : ∀ x ∈ chB q bh c, okB x = true := by
  intro x hx
  by_cases h : (c = q ∨ c = 92) ∨ M.plainB c = true
  · unfold chB at hx
    by_cases h1 : c = q ∨ c = 92
    · rw [if_pos h1] at hx
      simp only [List.mem_cons, List.not_mem_nil, or_false] at hx
      rcases hx with rfl | rfl
      · decide
      · rcases h1 with rfl | rfl
        · rcases hq with rfl | rfl <;> decide
        · decide
    · have h2 : M.plainB c = true := by
        rcases h with h | h
        · exact absurd h h1
        · exact h
      rw [if_neg h1, if_pos h2, List.mem_singleton] at hx
      subst hx
      exact or_of (ok_plain x) h2
  · rw [chB_long q bh c h] at hx
    rcases List.mem_cons.1 hx with rfl | hx
    · decide
    · rcases List.mem_append.1 hx with hx | hx
      · rw [Lib.itoa_nonneg] at hx
        have key : ∀ b : UInt8, (!M.digB b || okB b) = true := M.all256 _ (by decide +kernel)
        exact or_of (key x) (dig_all _ x hx)
      · exact hb x hx
theorem char_told (c : UInt8) (r : List UInt8) : M.character 39 (chB 39 [] c ++ 39 :: r) = ((chB 39 [] c).length, c.toNat) := by
  by_cases h : (c = 39 ∨ c = 92) ∨ M.plainB c = true
  · exact char_short 39 [] c (.inl rfl) h _
  · rw [chB_long 39 [] c h, List.append_nil]
    show M.character 39 (92 :: (Lib.itoa (c.toNat : Int) ++ 39 :: r)) = _
    rw [char_long 39 c (.inl rfl) (39 :: r) (by rfl)]
    rfl
theorem cls39 : M.cls 39 = 5 := by decide +kernel
theorem cls34 : M.cls 34 = 6 := by decide +kernel
theorem good_char (c : UInt8) : Good ⟨6, [], c.toNat⟩ (quM 39 [] [c]) := by
  have hu : quM 39 [] [c] = 39 :: (chB 39 [] c ++ [39]) := by unfold quM; simp
  rw [hu]
  have hne : (chB 39 [] c).length ≠ 0 := by
    unfold chB; split
    · simp
    · split <;> simp
  have hch : ∀ r, M.takeChar ((39 :: (chB 39 [] c ++ [39])) ++ r) = (chB 39 [] c).length + 2 := by
    intro r
    have h1 := char_told c r
    have e : (39 :: (chB 39 [] c ++ [39])) ++ r = 39 :: (chB 39 [] c ++ 39 :: r) := by simp
    rw [e]
    unfold M.takeChar
    rw [if_pos (by rfl)]
    show (if (M.character 39 (chB 39 [] c ++ 39 :: r)).1 = 0 ∨ ([39] : List UInt8).isPrefixOf ((39 :: (chB 39 [] c ++ 39 :: r)).drop (1 + (M.character 39 (chB 39 [] c ++ 39 :: r)).1)) = false then 0 else (M.character 39 (chB 39 [] c ++ 39 :: r)).1 + 2) = _
    rw [h1]
    have ed : (39 :: (chB 39 [] c ++ 39 :: r)).drop (1 + (chB 39 [] c).length) = 39 :: r := by
      rw [Nat.add_comm, List.drop_succ_cons, List.drop_left]
    rw [ed, if_neg (by rintro (e | e); exact hne e; simp [List.isPrefixOf] at e)]
  refine ⟨by simp, fun r hr => ?_, ⟨5, fun r hr => ?_, ?_⟩, fun x hx => ?_⟩
  · rw [List.cons_append]
    exact pass_cls 39 _ (by rw [cls39]; omega) (by rw [cls39]; omega) (by rw [cls39]; omega)
  · rw [List.cons_append, M.lex1_cons, cls39]
    show M.nz 5 (M.takeChar ((39 :: (chB 39 [] c ++ [39])) ++ r)) = _
    rw [hch r, nz_pos (by omega)]
    simp
  · show M.resv (M.mkTok 6 (39 :: (chB 39 [] c ++ [39]))) = _
    have h1 := char_told c []
    unfold M.mkTok
    rw [if_neg (by decide), if_pos rfl]
    show M.resv ⟨6, [], (M.character 39 (chB 39 [] c ++ [39])).2⟩ = _
    rw [h1]
    rfl
  · rcases List.mem_cons.1 hx with rfl | hx
    · decide
    · rcases List.mem_append.1 hx with hx | hx
      · exact chB_ok 39 [] c (.inl rfl) (by simp) x hx
      · rw [List.mem_singleton] at hx; subst hx; decide

/-- What stands for no character: only behind a code. -/
theorem noChar_tilde (r : List UInt8) : M.noChar (92 :: 38 :: r) = 2 := by
  rw [M.noChar_cons, if_pos (by decide), if_pos (by rfl)]
theorem noChar_none (b : UInt8) (r : List UInt8) (h : ¬ b.toNat = 92) : M.noChar (b :: r) = 0 := by rw [M.noChar_cons, if_neg h]
theorem noChar_esc (c : UInt8) (r : List UInt8) (h1 : ¬ c = 38) (h2 : M.blankB c = false) : M.noChar (92 :: c :: r) = 0 := by
  have hc : M.cnt M.blankB (c :: r) = 0 := by show (if M.blankB c = true then _ else 0) = 0; rw [h2]; rfl
  have hp : ([38] : List UInt8).isPrefixOf (c :: r) = false := by
    rw [M.pref1]; exact beq_eq_false_iff_ne.2 (fun e => h1 e.symm)
  rw [M.noChar_cons, if_pos (by decide), if_neg (by rw [hp]; simp), if_pos (.inl hc)]
theorem chs_char (f : Nat) (l : List UInt8) (n : Nat) (c : UInt8) (h34 : ([34] : List UInt8).isPrefixOf l = false) (hn : M.noChar l = 0) (hc : M.character 34 l = (n, c.toNat)) (h0 : n ≠ 0) : M.chs (f + 1) l = (M.chs f (l.drop n)).map fun r => (r.1 + n, c :: r.2) := by
  show (if ([34] : List UInt8).isPrefixOf l then _ else if 0 < M.noChar l then _ else if (M.character 34 l).1 = 0 then _ else _) = _
  rw [h34, hn, hc]
  have : UInt8.ofNat c.toNat = c := by simp
  simp only [Bool.false_eq_true, if_false, Nat.lt_irrefl, if_neg h0, this]
theorem chs_skip (f : Nat) (r : List UInt8) : M.chs (f + 1) (92 :: 38 :: r) = (M.chs f r).map fun x => (x.1 + 2, x.2) := by
  show (if ([34] : List UInt8).isPrefixOf (92 :: 38 :: r) then _ else if 0 < M.noChar (92 :: 38 :: r) then _ else _) = _
  rw [noChar_tilde, if_neg (by rw [M.pref1]; decide), if_pos (by decide)]
  rfl
theorem chs_told (r : List UInt8) : ∀ (text : List UInt8) (f : Nat), (text.flatMap (chB 34 [92, 38]) ++ 34 :: r).length < f → M.chs f (text.flatMap (chB 34 [92, 38]) ++ 34 :: r) = some ((text.flatMap (chB 34 [92, 38])).length + 1, text)
  | [], f, h => by
    obtain ⟨f, rfl⟩ : ∃ g, f = g + 1 := ⟨f - 1, by omega⟩
    show (if ([34] : List UInt8).isPrefixOf (34 :: r) then some (1, []) else _) = _
    rw [M.pref1]
    rfl
  | c :: text, f, h => by
    have e : (c :: text).flatMap (chB 34 [92, 38]) ++ 34 :: r = chB 34 [92, 38] c ++ (text.flatMap (chB 34 [92, 38]) ++ 34 :: r) := by simp [List.flatMap_cons]
    have el : ((c :: text).flatMap (chB 34 [92, 38])).length = (chB 34 [92, 38] c).length + (text.flatMap (chB 34 [92, 38])).length := by simp [List.flatMap_cons]
    rw [e] at h ⊢
    rw [el]
    have ih := chs_told r text
    generalize text.flatMap (chB 34 [92, 38]) ++ 34 :: r = rest at h ih ⊢
    generalize (text.flatMap (chB 34 [92, 38])).length = m at ih ⊢
    obtain ⟨f, rfl⟩ : ∃ g, f = g + 1 := ⟨f - 1, by omega⟩
    by_cases hs : (c = 34 ∨ c = 92) ∨ M.plainB c = true
    · have hc := char_short 34 [92, 38] c (.inr rfl) hs rest
      have hne : (chB 34 [92, 38] c).length ≠ 0 := by
        unfold chB; split
        · simp
        · split <;> simp
      have hpre : ([34] : List UInt8).isPrefixOf (chB 34 [92, 38] c ++ rest) = false ∧ M.noChar (chB 34 [92, 38] c ++ rest) = 0 := by
        unfold chB
        by_cases h1 : c = 34 ∨ c = 92
        · rw [if_pos h1]
          refine ⟨by show ([34] : List UInt8).isPrefixOf (92 :: (c :: rest)) = false; rw [M.pref1]; decide, noChar_esc c rest ?_ ?_⟩
          · rcases h1 with rfl | rfl <;> decide
          · rcases h1 with rfl | rfl <;> decide
        · have h2 : M.plainB c = true := by
            rcases hs with hs | hs
            · exact absurd hs h1
            · exact hs
          rw [if_neg h1, if_pos h2]
          refine ⟨?_, noChar_none c rest (fun e => h1 (.inr (UInt8.toNat_inj.1 e)))⟩
          show ([34] : List UInt8).isPrefixOf (c :: rest) = false
          rw [M.pref1]
          exact beq_eq_false_iff_ne.2 (fun e => h1 (.inl e.symm))
      rw [chs_char f _ _ c hpre.1 hpre.2 hc hne, List.drop_left, ih f (by rw [List.length_append] at h; omega)]
      simp only [Option.map_some, Option.some.injEq, Prod.mk.injEq, and_true]
      omega
    · rw [chB_long 34 [92, 38] c hs] at h ⊢
      have ea : 92 :: (Lib.itoa (c.toNat : Int) ++ [92, 38]) ++ rest = 92 :: (Lib.itoa (c.toNat : Int) ++ (92 :: 38 :: rest)) := by simp
      rw [ea] at h ⊢
      have hc := char_long 34 c (.inr rfl) (92 :: 38 :: rest) (by rfl)
      obtain ⟨d, t, he, -⟩ := dig_head c.toNat
      have hdig : M.digB d = true := dig_all c.toNat d (by rw [he]; simp)
      have hno : M.noChar (92 :: (Lib.itoa (c.toNat : Int) ++ (92 :: 38 :: rest))) = 0 := by
        rw [Lib.itoa_nonneg, he]
        have key : ∀ b : UInt8, (!M.digB b || (b != 38 && !M.blankB b)) = true := M.all256 _ (by decide +kernel)
        have hk := or_of (key d) hdig
        simp only [Bool.and_eq_true, bne_iff_ne, ne_eq, Bool.not_eq_true'] at hk
        exact noChar_esc d _ hk.1 hk.2
      rw [chs_char f _ _ c (by rw [M.pref1]; decide) hno hc (by omega)]
      have ed : (92 :: (Lib.itoa (c.toNat : Int) ++ (92 :: 38 :: rest))).drop ((Lib.itoa (c.toNat : Int)).length + 1) = 92 :: 38 :: rest := by rw [List.drop_succ_cons, List.drop_left]
      rw [ed]
      simp only [List.length_cons, List.length_append] at h
      obtain ⟨f, rfl⟩ : ∃ g, f = g + 1 := ⟨f - 1, by omega⟩
      rw [chs_skip, ih f (by omega)]
      simp only [Option.map_some, Option.some.injEq, Prod.mk.injEq, and_true, List.length_cons, List.length_append, List.length_nil]
      omega
theorem good_str (text : List UInt8) : Good ⟨7, text, 0⟩ (quM 34 [92, 38] text) := by
  have hch : ∀ r, M.chars (quM 34 [92, 38] text ++ r) = ((quM 34 [92, 38] text).length, text) := by
    intro r
    have e : quM 34 [92, 38] text ++ r = 34 :: (text.flatMap (chB 34 [92, 38]) ++ 34 :: r) := by unfold quM; simp
    have h1 := chs_told r text ((quM 34 [92, 38] text ++ r).length + 1) (by rw [e]; simp only [List.length_cons, List.length_append]; omega)
    unfold M.chars
    rw [if_pos (by rw [e]; rfl)]
    rw [e] at h1 ⊢
    show (match M.chs _ (text.flatMap (chB 34 [92, 38]) ++ 34 :: r) with | some r => (r.1 + 1, r.2) | none => (0, [])) = _
    rw [h1]
    simp [quM]
  have hl : (quM 34 [92, 38] text).length ≠ 0 := by simp [quM]
  refine ⟨by simp [quM], fun r hr => ?_, ⟨6, fun r hr => ?_, ?_⟩, fun x hx => ?_⟩
  · unfold quM
    rw [List.cons_append]
    exact pass_cls 34 _ (by rw [cls34]; omega) (by rw [cls34]; omega) (by rw [cls34]; omega)
  · have h1 := hch r
    have e : ∃ t, quM 34 [92, 38] text ++ r = 34 :: t := ⟨_, by unfold quM; rw [List.cons_append]⟩
    obtain ⟨t, e⟩ := e
    rw [e] at h1 ⊢
    rw [M.lex1_cons, cls34]
    show M.nz 6 (M.chars (34 :: t)).1 = _
    rw [h1]
    exact nz_pos hl
  · have h1 := hch []
    rw [List.append_nil] at h1
    show M.resv (M.mkTok 7 (quM 34 [92, 38] text)) = _
    unfold M.mkTok
    rw [if_neg (by decide), if_neg (by decide), if_pos rfl, h1]
    rfl
  · unfold quM at hx
    rcases List.mem_cons.1 hx with rfl | hx
    · decide
    · rcases List.mem_append.1 hx with hx | hx
      · obtain ⟨c, -, hc⟩ := List.mem_flatMap.1 hx
        exact chB_ok 34 [92, 38] c (.inr rfl) (by decide) x hc
      · rw [List.mem_singleton] at hx; subst hx; decide

end Go.Proofs.YtpidccdgkkcljaaGreatDoor
