/-
  Plain mathematics: what was read is told so that it is read again.
-/
import Derived.Test.YtpidccdgkkcljaaGreatDoorBackM
import Derived.Test.YtpidccdgkkcljaaGreatDoorBetwM
namespace Go.Proofs.YtpidccdgkkcljaaGreatDoor
open Go.RowKit Go.Shelf Go.Maps
set_option linter.unusedVariables false

theorem nz_eq {c x k n : Nat} (h : M.nz c x = (k, n)) (hn : n ≠ 0) : k = c ∧ n = x := by
  unfold M.nz at h
  split at h
  · simp only [Prod.mk.injEq] at h; omega
  · simp only [Prod.mk.injEq] at h; omega
theorem cls_eq (b : UInt8) : M.begName b = (M.cls b == 0) ∧ M.capB b = (M.cls b == 1) ∧ M.begOp b = (M.cls b == 2) ∧ M.colonB b = (M.cls b == 3) ∧ M.digB b = (M.cls b == 4) ∧ decide (b.toNat = 39) = (M.cls b == 5) ∧ decide (b.toNat = 34) = (M.cls b == 6) ∧ M.markL.contains b = (M.cls b == 7) ∧ M.cls b ≤ 8 := M.cls_facts b
def plainT (k : Nat) : Prop := k = 1 ∨ k = 2 ∨ k = 3 ∨ k = 4 ∨ k = 8 ∨ k = 9 ∨ k = 10
theorem txM_plain (k : Nat) (h : plainT k) (tx : List UInt8) (n : Int) : txM (k : Int) tx n = tx := by
  unfold plainT at h
  unfold txM
  rw [if_neg (by omega), if_neg (by omega), if_neg (by omega), if_pos (by omega)]
theorem resv_kind (k : Nat) (lx : List UInt8) : (M.resv ⟨k, lx, 0⟩).text = lx ∧ ((M.resv ⟨k, lx, 0⟩).kind = k ∨ (k = 1 ∧ (M.resv ⟨k, lx, 0⟩).kind = 9) ∨ (k = 3 ∧ (M.resv ⟨k, lx, 0⟩).kind = 10)) := by
  unfold M.resv
  split
  · rename_i h; exact ⟨rfl, .inr (.inl ⟨h.1, rfl⟩)⟩
  · split
    · rename_i h; exact ⟨rfl, .inr (.inr ⟨h.1, rfl⟩)⟩
    · exact ⟨rfl, .inl rfl⟩
theorem txM_resv (k : Nat) (hk : k = 1 ∨ k = 2 ∨ k = 3 ∨ k = 4 ∨ k = 8) (lx : List UInt8) : txM ((M.resv ⟨k, lx, 0⟩).kind : Int) (M.resv ⟨k, lx, 0⟩).text ((M.resv ⟨k, lx, 0⟩).num : Int) = lx := by
  obtain ⟨h1, h2⟩ := resv_kind k lx
  rw [h1]
  refine txM_plain _ ?_ _ _
  unfold plainT
  omega
/-- A run, cut out of a text. -/
theorem run_parts (p q : UInt8 → Bool) (b : UInt8) (l : List UInt8) (hb : p b = true) : (b :: l).take (M.headed p q (b :: l)) = b :: l.take (M.cnt q l) ∧ ∀ x ∈ l.take (M.cnt q l), q x = true := by
  rw [M.headed_cons, if_pos hb]
  exact ⟨by rw [List.take_succ_cons], M.cnt_all q l⟩
theorem sym_beg : ∀ b : UInt8, (!M.sym b || (!M.blankB b && decide (¬ b.toNat = 123))) = true := M.all256 _ (by decide +kernel)
theorem pass_sym (b : UInt8) (l r : List UInt8) (hs : M.sym b = true) (hp : M.pass1 (b :: l) = 0) (hr : Aft r) : M.pass1 (b :: (l.take (M.cnt M.sym l) ++ r)) = 0 := by
  have hk := or_of (sym_beg b) hs
  simp only [Bool.and_eq_true, Bool.not_eq_true', decide_eq_true_eq] at hk
  cases hd : M.dashB b with
  | false => exact pass_other b _ hk.1 hd hk.2
  | true =>
    rw [M.pass1_cons, if_neg (by rw [hk.1]; simp), if_pos hd] at hp ⊢
    rw [M.passDashes_def] at hp ⊢
    have hc1 : M.cnt M.sym (b :: l) = M.cnt M.sym l + 1 := by show (if M.sym b = true then _ else 0) = _; rw [if_pos hs]
    have hlen : (l.take (M.cnt M.sym l)).length = M.cnt M.sym l := by rw [List.length_take]; have := M.cnt_le M.sym l; omega
    have hc2 : M.cnt M.sym (b :: (l.take (M.cnt M.sym l) ++ r)) = M.cnt M.sym l + 1 := by
      show (if M.sym b = true then M.cnt M.sym (l.take (M.cnt M.sym l) ++ r) + 1 else 0) = _
      rw [if_pos hs, cnt_app M.sym _ r (M.cnt_all M.sym l) (aft_cnt _ (by decide) hr), hlen]
    have ht1 : (b :: l).take (M.cnt M.sym l + 1) = b :: l.take (M.cnt M.sym l) := by rw [List.take_succ_cons]
    have ht2 : (b :: (l.take (M.cnt M.sym l) ++ r)).take (M.cnt M.sym l + 1) = b :: l.take (M.cnt M.sym l) := by
      rw [List.take_succ_cons]
      congr 1
      rw [List.take_append_of_le_length (by omega), List.take_of_length_le (by omega)]
    rw [hc1, ht1] at hp
    rw [hc2, ht2]
    by_cases hcond : M.cnt M.sym l + 1 < 2 ∨ (b :: l.take (M.cnt M.sym l)).all M.dashB = false
    · rw [if_pos hcond]
    · rw [if_neg hcond] at hp
      exfalso
      have : M.notNL b = true := M.sym_notNL b hs
      have h2 : M.cnt M.notNL (b :: l) = M.cnt M.notNL l + 1 := by show (if M.notNL b = true then _ else 0) = _; rw [if_pos this]
      omega
/-- What a text's first lexeme is told as is read as the same token. -/
theorem good_of_lex (l : List UInt8) (k n : Nat) (hp : M.pass1 l = 0) (hl : M.lex1 l = (k, n)) (hn : n ≠ 0) :
    Good (M.resv (M.mkTok (k + 1) (l.take n))) (txM ((M.resv (M.mkTok (k + 1) (l.take n))).kind : Int) (M.resv (M.mkTok (k + 1) (l.take n))).text ((M.resv (M.mkTok (k + 1) (l.take n))).num : Int)) := by
  obtain ⟨b, l', rfl, hb⟩ := lex_parts l k n hl hn
  have hf := cls_eq b
  have hcs : M.cls b = 0 ∨ M.cls b = 1 ∨ M.cls b = 2 ∨ M.cls b = 3 ∨ M.cls b = 4 ∨ M.cls b = 5 ∨ M.cls b = 6 ∨ M.cls b = 7 ∨ M.cls b = 8 := by omega
  rcases hcs with hc | hc | hc | hc | hc | hc | hc | hc | hc
  · rw [hc] at hb
    obtain ⟨rfl, rfl⟩ := nz_eq (c := 0) hb hn
    have hbe : M.begName b = true := by rw [hf.1, hc]; rfl
    obtain ⟨e, hall⟩ := run_parts M.begName M.inName b l' hbe
    rw [e]
    rw [show M.mkTok (0 + 1) (b :: l'.take (M.cnt M.inName l')) = ⟨1, b :: l'.take (M.cnt M.inName l'), 0⟩ from rfl, txM_resv 1 (by omega)]
    have hin : M.inName b = true := by
      have key : ∀ b : UInt8, (!M.begName b || M.inName b) = true := M.all256 _ (by decide +kernel)
      exact or_of (key b) hbe
    exact good_run 0 0 M.begName M.inName _ b _ hbe hall (by decide) hc (fun _ => rfl) (fun r _ => pass_cls b _ (by omega) (by omega) (by omega)) rfl (fun x hx => by
      rcases List.mem_cons.1 hx with rfl | hx
      · exact or_of (ok_name x) hin
      · exact or_of (ok_name x) (hall x hx))
  · rw [hc] at hb
    obtain ⟨rfl, rfl⟩ := nz_eq (c := 1) hb hn
    have hbe : M.capB b = true := by rw [hf.2.1, hc]; rfl
    obtain ⟨e, hall⟩ := run_parts M.capB M.inName b l' hbe
    rw [e]
    rw [show M.mkTok (1 + 1) (b :: l'.take (M.cnt M.inName l')) = ⟨2, b :: l'.take (M.cnt M.inName l'), 0⟩ from rfl, txM_resv 2 (by omega)]
    have hin : M.inName b = true := by
      have key : ∀ b : UInt8, (!M.capB b || M.inName b) = true := M.all256 _ (by decide +kernel)
      exact or_of (key b) hbe
    exact good_run 1 1 M.capB M.inName _ b _ hbe hall (by decide) hc (fun _ => rfl) (fun r _ => pass_cls b _ (by omega) (by omega) (by omega)) rfl (fun x hx => by
      rcases List.mem_cons.1 hx with rfl | hx
      · exact or_of (ok_name x) hin
      · exact or_of (ok_name x) (hall x hx))
  · rw [hc] at hb
    obtain ⟨rfl, rfl⟩ := nz_eq (c := 2) hb hn
    have hbe : M.begOp b = true := by rw [hf.2.2.1, hc]; rfl
    have hsy : M.sym b = true := by unfold M.begOp at hbe; simp only [Bool.and_eq_true] at hbe; exact hbe.1
    obtain ⟨e, hall⟩ := run_parts M.begOp M.sym b l' hbe
    rw [e]
    rw [show M.mkTok (2 + 1) (b :: l'.take (M.cnt M.sym l')) = ⟨3, b :: l'.take (M.cnt M.sym l'), 0⟩ from rfl, txM_resv 3 (by omega)]
    exact good_run 2 2 M.begOp M.sym _ b _ hbe hall (by decide) hc (fun _ => rfl) (fun r hr => pass_sym b l' r hsy hp hr) rfl (fun x hx => by
      rcases List.mem_cons.1 hx with rfl | hx
      · exact or_of (ok_sym x) hsy
      · exact or_of (ok_sym x) (hall x hx))
  · rw [hc] at hb
    obtain ⟨rfl, rfl⟩ := nz_eq (c := 3) hb hn
    have hbe : M.colonB b = true := by rw [hf.2.2.2.1, hc]; rfl
    have hsy : M.sym b = true := by
      have key : ∀ b : UInt8, (!M.colonB b || M.sym b) = true := M.all256 _ (by decide +kernel)
      exact or_of (key b) hbe
    obtain ⟨e, hall⟩ := run_parts M.colonB M.sym b l' hbe
    rw [e]
    rw [show M.mkTok (3 + 1) (b :: l'.take (M.cnt M.sym l')) = ⟨4, b :: l'.take (M.cnt M.sym l'), 0⟩ from rfl, txM_resv 4 (by omega)]
    exact good_run 3 3 M.colonB M.sym _ b _ hbe hall (by decide) hc (fun _ => rfl) (fun r hr => pass_sym b l' r hsy hp hr) rfl (fun x hx => by
      rcases List.mem_cons.1 hx with rfl | hx
      · exact or_of (ok_sym x) hsy
      · exact or_of (ok_sym x) (hall x hx))
  · rw [hc] at hb
    obtain ⟨rfl, hnn⟩ := nz_eq (c := 4) hb hn
    show Good (M.resv ⟨5, [], (M.number ((b :: l').take n)).2⟩) (txM 5 [] ((M.number ((b :: l').take n)).2 : Int))
    have hv := M.number_val ((b :: l').take n)
    generalize (M.number ((b :: l').take n)).2 = v at hv ⊢
    have e : txM 5 [] (v : Int) = Lib.decDigits v := by
      unfold txM
      rw [if_pos rfl, show max (v : Int) 0 = (v : Int) by omega, Lib.itoa_nonneg]
    rw [e]
    exact good_int v hv
  · rw [hc] at hb
    obtain ⟨rfl, hnn⟩ := nz_eq (c := 5) hb hn
    show Good (M.resv ⟨6, [], (M.character 39 (((b :: l').take n).drop 1)).2⟩) (txM 6 [] ((M.character 39 (((b :: l').take n).drop 1)).2 : Int))
    have hv := M.character_val 39 (((b :: l').take n).drop 1)
    generalize (M.character 39 (((b :: l').take n).drop 1)).2 = v at hv ⊢
    have e : txM 6 [] (v : Int) = quM 39 [] [UInt8.ofNat v] := by
      unfold txM
      rw [if_neg (by omega), if_pos rfl, show min (max (v : Int) 0) 255 = (v : Int) by omega]
      rfl
    rw [e]
    have ev : (UInt8.ofNat v).toNat = v := by rw [UInt8.toNat_ofNat']; omega
    have := good_char (UInt8.ofNat v)
    rw [ev] at this
    exact this
  · rw [hc] at hb
    obtain ⟨rfl, hnn⟩ := nz_eq (c := 6) hb hn
    show Good (M.resv ⟨7, (M.chars ((b :: l').take n)).2, 0⟩) (txM 7 (M.chars ((b :: l').take n)).2 0)
    generalize (M.chars ((b :: l').take n)).2 = v
    exact good_str v
  · rw [hc] at hb
    obtain ⟨rfl, hnn⟩ := nz_eq (c := 7) hb hn
    have hm : M.markL.contains b = true := by rw [hf.2.2.2.2.2.2.2.1, hc]; rfl
    have hn1 : n = 1 := by
      rw [M.takeMark_cons] at hnn
      split at hnn
      · omega
      · exact hnn
    subst hn1
    show Good (M.resv ⟨8, [b], 0⟩) (txM 8 [b] 0)
    have e : txM 8 [b] 0 = [b] := txM_plain 8 (by unfold plainT; omega) [b] 0
    rw [e]
    exact good_mark b hm
  · rw [hc] at hb
    have : (0, 0) = (k, n) := hb
    simp only [Prod.mk.injEq] at this
    omega

/-- Texts, each with a blank ahead. -/
def tl : List (List UInt8) → List UInt8
  | [] => []
  | u :: us => 32 :: (u ++ tl us)
def joinM : List (List UInt8) → List UInt8
  | [] => []
  | u :: us => u ++ tl us
theorem tl_aft (us : List (List UInt8)) : Aft (tl us) := by
  cases us with
  | nil => exact .inl rfl
  | cons u us => exact .inr ⟨_, rfl⟩
theorem good_nb {t : M.T0} {u : List UInt8} (h : Good t u) (r : List UInt8) (hr : Aft r) : M.cnt M.blankB (u ++ r) = 0 := by
  have hp := h.pass r hr
  cases hu : u with
  | nil => exact absurd hu h.ne
  | cons b u' =>
    rw [hu, List.cons_append] at hp
    show (if M.blankB b = true then M.cnt M.blankB (u' ++ r) + 1 else 0) = 0
    rw [M.pass1_cons] at hp
    cases hb : M.blankB b with
    | false => rfl
    | true =>
      rw [if_pos hb] at hp
      have : M.cnt M.blankB (b :: (u' ++ r)) = M.cnt M.blankB (u' ++ r) + 1 := by show (if M.blankB b = true then _ else 0) = _; rw [if_pos hb]
      omega
theorem idle_tl {t : M.T0} {u : List UInt8} (h : Good t u) (r : List UInt8) (hr : Aft r) : M.idleAll (32 :: (u ++ r)) = 1 := by
  have h1 : M.pass1 (32 :: (u ++ r)) = 1 := by
    rw [M.pass1_cons, if_pos (by decide)]
    show (if M.blankB 32 = true then M.cnt M.blankB (u ++ r) + 1 else 0) = 1
    rw [if_pos (by decide), good_nb h r hr]
  rw [M.idleAll_step, if_neg (by omega), h1]
  show 1 + M.idleAll (u ++ r) = 1
  rw [M.idleAll_zero _ (h.pass r hr)]
theorem scan_step {t : M.T0} {u : List UInt8} (h : Good t u) (r l : List UInt8) (hr : Aft r) (i f : Nat) (hi : M.idleAll l = i) (hd : l.drop i = u ++ r) (X : List M.T0) (ih : ∀ a p last, ∃ ms, M.scan f a p last r = .inr ms ∧ ms.map (·.t) = X) (a : Nat) (p : Nat × Nat) (last : Nat) :
    ∃ ms, M.scan (f + 1) a p last l = .inr ms ∧ ms.map (·.t) = t :: X := by
  obtain ⟨k, hk, hmk⟩ := h.lex
  have hlx := hk r hr
  have hne : (u ++ r).isEmpty = false := by
    cases hu : u with
    | nil => exact absurd hu h.ne
    | cons b u' => rfl
  have hul : u.length ≠ 0 := fun e => h.ne (List.length_eq_zero_iff.1 e)
  have hdr : l.drop (i + u.length) = r := by rw [← List.drop_drop, hd, List.drop_left]
  obtain ⟨ms, h1, h2⟩ := ih (a + i + u.length) (M.mv p (l.take (i + u.length))) (M.mv p (l.take i)).1
  refine ⟨⟨t, a + i, (M.mv p (l.take i)).1, (M.mv p (l.take i)).2, decide ((M.mv p (l.take i)).1 ≠ last)⟩ :: ms, ?_, by rw [List.map_cons, h2]⟩
  unfold M.scan
  rw [hi, hd, hlx]
  simp only
  rw [hne, hdr, h1, List.take_left, hmk]
  simp [hul]
theorem scan_tl : ∀ (tus : List (M.T0 × List UInt8)), (∀ x ∈ tus, Good x.1 x.2) → ∀ (f : Nat), tus.length < f → ∀ a p last, ∃ ms, M.scan f a p last (tl (tus.map (·.2))) = .inr ms ∧ ms.map (·.t) = tus.map (·.1)
  | [], _, f, hf, a, p, last => by
    obtain ⟨f, rfl⟩ : ∃ g, f = g + 1 := ⟨f - 1, by simp at hf; omega⟩
    refine ⟨[], ?_, rfl⟩
    unfold M.scan
    rfl
  | x :: tus, hg, f, hf, a, p, last => by
    obtain ⟨f, rfl⟩ : ∃ g, f = g + 1 := ⟨f - 1, by simp at hf; omega⟩
    have hx := hg x (by simp)
    exact scan_step hx (tl (tus.map (·.2))) (32 :: (x.2 ++ tl (tus.map (·.2)))) (tl_aft _) 1 f (idle_tl hx _ (tl_aft _)) rfl (tus.map (·.1)) (scan_tl tus (fun y hy => hg y (by simp [hy])) f (by simpa using hf)) a p last
theorem tl_len : ∀ us : List (List UInt8), us.length ≤ (tl us).length
  | [] => Nat.le_refl _
  | u :: us => by
    have := tl_len us
    show us.length + 1 ≤ (u ++ tl us).length + 1
    rw [List.length_append]; omega
theorem scan_join (tus : List (M.T0 × List UInt8)) (hg : ∀ x ∈ tus, Good x.1 x.2) : ∃ ms, M.scanAll (joinM (tus.map (·.2))) = .inr ms ∧ ms.map (·.t) = tus.map (·.1) := by
  cases tus with
  | nil => exact ⟨[], rfl, rfl⟩
  | cons x tus =>
    have hx := hg x (by simp)
    have hl : tus.length < (joinM ((x :: tus).map (·.2))).length := by
      have h1 := tl_len (tus.map (·.2))
      have h2 : x.2.length ≠ 0 := fun e => hx.ne (List.length_eq_zero_iff.1 e)
      show tus.length < (x.2 ++ tl (tus.map (·.2))).length
      rw [List.length_append]
      rw [List.length_map] at h1
      omega
    exact scan_step hx (tl (tus.map (·.2))) (x.2 ++ tl (tus.map (·.2))) (tl_aft _) 0 _ (M.idleAll_zero _ (hx.pass _ (tl_aft _))) rfl (tus.map (·.1)) (scan_tl tus (fun y hy => hg y (by simp [hy])) _ hl) 0 (1, 1) 0
/-- All tokens of a text are told so that they are read again. -/
def tx0 (t : M.T0) : List UInt8 := txM (t.kind : Int) t.text (t.num : Int)
theorem scan_good : ∀ (f a : Nat) (p : Nat × Nat) (last : Nat) (l : List UInt8) (ts : List M.Tk), M.scan f a p last l = .inr ts → ∀ t ∈ ts, Good t.t (tx0 t.t)
  | 0, a, p, last, l, ts, h, t, ht => by simp [M.scan] at h
  | f + 1, a, p, last, l, ts, h, t, ht => by
    unfold M.scan at h
    split at h
    · simp at h; subst h; simp at ht
    · split at h
      · cases h
      · rename_i h1 h2
        have hgl := good_of_lex (l.drop (M.idleAll l)) (M.lex1 (l.drop (M.idleAll l))).1 (M.lex1 (l.drop (M.idleAll l))).2 (M.idleAll_stop _ l (Nat.le_refl _)) rfl h2
        split at h
        · cases h
        · rename_i ts' hs
          simp only [Sum.inr.injEq] at h
          subst h
          rcases List.mem_cons.1 ht with rfl | ht
          · exact hgl
          · exact scan_good f _ _ _ _ ts' hs t ht
theorem tl_ok : ∀ us : List (List UInt8), (∀ u ∈ us, ∀ b ∈ u, okB b = true) → ∀ b ∈ tl us, okB b = true
  | [], _, b, hb => by cases hb
  | u :: us, h, b, hb => by
    rcases List.mem_cons.1 hb with rfl | hb
    · decide
    · rcases List.mem_append.1 hb with hb | hb
      · exact h u (by simp) b hb
      · exact tl_ok us (fun v hv => h v (by simp [hv])) b hb
/-- What LexBack asks. -/
theorem back (l : List UInt8) (ts : List M.Tk) (h : M.scanAll l = .inr ts) (hlen : (joinM (ts.map fun t => tx0 t.t)).length ≤ 65536) : chk (bs (joinM (ts.map fun t => tx0 t.t))) = (0, 0) ∧ ∃ ms, M.scanAll (joinM (ts.map fun t => tx0 t.t)) = .inr ms ∧ ms.map (·.t) = ts.map (·.t) := by
  have hg : ∀ t ∈ ts, Good t.t (tx0 t.t) := scan_good _ _ _ _ _ ts h
  refine ⟨?_, ?_⟩
  · unfold chk
    rw [if_neg (by rw [bs_size]; omega)]
    rw [bs_list, fb_all]
    intro b hb
    cases ts with
    | nil => cases hb
    | cons t ts =>
      rcases List.mem_append.1 hb with hb | hb
      · exact (hg t (by simp)).ok b hb
      · refine tl_ok _ ?_ b hb
        intro u hu
        obtain ⟨t', ht', rfl⟩ := List.mem_map.1 hu
        exact (hg t' (by simp [ht'])).ok
  · have := scan_join (ts.map fun t => (t.t, tx0 t.t)) (by intro x hx; obtain ⟨t, ht, rfl⟩ := List.mem_map.1 hx; exact hg t ht)
    rw [List.map_map, List.map_map] at this
    exact this

end Go.Proofs.YtpidccdgkkcljaaGreatDoor
