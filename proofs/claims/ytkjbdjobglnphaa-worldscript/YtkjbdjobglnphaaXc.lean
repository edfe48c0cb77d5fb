/-
  WorldScript: the program's calls, over what is told of a world.
-/
import Derived.Test.YtkjbdjobglnphaaXb
namespace Go.Proofs.Ytkjbdjobglnphaa
open Go.RowKit Go.Shelf Go.Maps Go.Conc
set_option linter.unusedVariables false
section
variable {b : Nat} {W : World} {F : Nat → Prop} {P : Nat} {s : St}
theorem nwl {F : Nat → Prop} {W : World} {k : Nat} (h : F k) : nw F W k := .inl h
theorem PSt.feed (h : PSt b W F P s) (hok : s.Ok) (ob : Option Addr) (n cb : Nat) (l : List Int) (hn : l.length = n) (hni : (n : Int) ≤ 9223372036854775807) (hb : BytAt W ob l) (hF : ∀ a, ob = some a → l ≠ [] → ¬ F a.block) :
    Calls Try.prog 9 #[.pointer (some ⟨P, 0, none⟩), .slice ob n cb] W fun r W' => r = .returned (.int .i64 (feedE s n)) ∧ PSt b W' (nw F W) P (feedS s l) ∧ Oth F W W' := by
  subst hn
  have h0 := h
  obtain ⟨C, cap, o, c, h1, h2, h3, h4, h5⟩ := h
  unfold feedE feedS
  cases he : s.en with
  | true =>
    rw [he] at h1
    refine (feed_over ob l.length cb W h1).mono ?_
    rintro r W' ⟨rfl, rfl⟩
    exact ⟨by simp, by simp only [if_true]; exact h0.mono (fun k hk => .inl hk), Oth.refl _ _⟩
  | false =>
    rw [he] at h1
    by_cases hl : s.inn.length + l.length ≤ 1048576
    · refine (feed_ok ob l cb W h1 hl hb (fun a ha hl2 e => hF a ha hl2 (by rw [e]; exact h3))).mono ?_
      rintro r W' ⟨rfl, C2, cap2, h6, h7, h8⟩
      have ho : Oth F W W' := h7.trans (S2 := fun _ => False) (Oth.refl _ _) (fun _ _ e => e.elim) |> fun h => ⟨h.os, h.tape, h.output, h.size, fun k hk hn => h.block k hk (fun e => hn (by rcases e with rfl | rfl <;> assumption))⟩
      refine ⟨by simp [hl], ?_, ho⟩
      simp only [Bool.false_eq_true, if_false, hl, if_true]
      refine ⟨C2, cap2, o, c, ?_, rowOth h2 h1 h7 (fun k e => e), .inl h3, ?_, fun k hk => .inl (h5 k hk)⟩
      · show WdAt W' P C2 cap2 ((s.inn ++ l).drop s.rd) (s.inn ++ l).length false o s.out.length c
        rw [List.drop_append_of_le_length hok.rd, List.length_append]
        exact h6
      · rcases h8 with rfl | h8
        · exact .inl h4
        · exact .inr h8
    · refine (feed_long ob l.length cb hni W h1 hl).mono ?_
      rintro r W' ⟨rfl, rfl⟩
      refine ⟨by simp [hl], ?_, Oth.refl _ _⟩
      simp only [Bool.false_eq_true, if_false, hl]
      exact h0.mono (fun k hk => .inl hk)
theorem PSt.ends (h : PSt b W F P s) : Calls Try.prog 11 #[.pointer (some ⟨P, 0, none⟩)] W fun r W' => r = .returned (.int .i64 (endE s)) ∧ PSt b W' (nw F W) P (endS s) ∧ Oth F W W' := by
  have h0 := h
  obtain ⟨C, cap, o, c, h1, h2, h3, h4, h5⟩ := h
  unfold endE endS
  cases he : s.en with
  | true =>
    rw [he] at h1
    refine (end_over W h1).mono ?_
    rintro r W' ⟨rfl, rfl⟩
    exact ⟨by simp, ⟨C, cap, o, c, h1, h2, .inl h3, .inl h4, fun k hk => .inl (h5 k hk)⟩, Oth.refl _ _⟩
  | false =>
    rw [he] at h1
    refine (end_ok W h1).mono ?_
    rintro r W' ⟨rfl, h6, h7⟩
    have ho : Oth F W W' := ⟨h7.os, h7.tape, h7.output, h7.size, fun k hk hn => h7.block k hk (fun e => hn (by rw [e]; exact h3))⟩
    exact ⟨by simp, ⟨C, cap, o, c, h6, rowOth h2 h1 h7 (fun k e => .inl e), .inl h3, .inl h4, fun k hk => .inl (h5 k hk)⟩, ho⟩
theorem PSt.get (h : PSt b W F P s) (hok : s.Ok) : Calls Try.prog 10 #[.pointer (some ⟨P, 0, none⟩)] W fun r W' => r = .returned (.tuple #[.int .u8 (getB s), .int .i64 (eofN s), .int .i64 0]) ∧ PSt b W' (nw F W) P (getS s) ∧ Oth F W W' := by
  have h0 := h
  obtain ⟨C, cap, o, c, h1, h2, h3, h4, h5⟩ := h
  unfold getB getS eofN
  by_cases hr : s.rd < s.inn.length
  · have hx : s.inn[s.rd]? = some s.inn[s.rd] := List.getElem?_eq_getElem hr
    rw [List.drop_eq_getElem_cons hr] at h1
    refine (get_some _ W h1).mono ?_
    rintro r W' ⟨rfl, h6, h7⟩
    have ho : Oth F W W' := ⟨h7.os, h7.tape, h7.output, h7.size, fun k hk hn => h7.block k hk (fun e => hn (by rw [e]; exact h4))⟩
    refine ⟨by rw [hx, whatN, if_neg (by omega)]; rfl, ?_, ho⟩
    rw [if_pos hr]
    exact ⟨C, cap, o, c, h6, rowOth h2 h1 h7 (fun k e => .inr e), .inl h3, .inl h4, fun k hk => .inl (h5 k hk)⟩
  · have hx : s.inn[s.rd]? = none := List.getElem?_eq_none (by omega)
    have he : s.inn.drop s.rd = [] := List.drop_eq_nil_of_le (by omega)
    rw [he] at h1
    refine (get_none W h1).mono ?_
    rintro r W' ⟨rfl, h6⟩
    refine ⟨by rw [hx, show s.inn.length - s.rd = 0 by omega]; rfl, ?_, Oth.of_below h6⟩
    rw [if_neg hr]
    exact (h0.below h6).mono (fun k hk => .inl hk)
theorem PSt.eof (h : PSt b W F P s) : Calls Try.prog 19 #[.pointer (some ⟨P, 0, none⟩)] W fun r W' => r = .returned (.tuple #[.int .i64 (eofN s), .int .i64 0]) ∧ Below W.heap.size W W' := by
  obtain ⟨C, cap, o, c, h1, h2, h3, h4, h5⟩ := h
  refine (eof_c W h1).mono ?_
  rintro r W' ⟨rfl, h6⟩
  exact ⟨by rw [eofN, List.length_drop], h6⟩
theorem PSt.used (h : PSt b W F P s) (hok : s.Ok) : Calls Try.prog 12 #[.pointer (some ⟨P, 0, none⟩)] W fun r W' => r = .returned (.int .i64 (s.rd : Int)) ∧ Below W.heap.size W W' := by
  obtain ⟨C, cap, o, c, h1, h2, h3, h4, h5⟩ := h
  refine (used_c W h1).mono ?_
  rintro r W' ⟨rfl, h6⟩
  exact ⟨by rw [List.length_drop, show s.inn.length - (s.inn.length - s.rd) = s.rd by have := hok.rd; omega], h6⟩
theorem PSt.left (h : PSt b W F P s) : Calls Try.prog 13 #[.pointer (some ⟨P, 0, none⟩)] W fun r W' => r = .returned (.int .i64 ((s.inn.length - s.rd : Nat) : Int)) ∧ Below W.heap.size W W' := by
  obtain ⟨C, cap, o, c, h1, h2, h3, h4, h5⟩ := h
  refine (left_c W h1).mono ?_
  rintro r W' ⟨rfl, h6⟩
  exact ⟨by rw [List.length_drop], h6⟩
theorem PSt.ended (h : PSt b W F P s) : Calls Try.prog 14 #[.pointer (some ⟨P, 0, none⟩)] W fun r W' => r = .returned (.bool s.en) ∧ Below W.heap.size W W' := by
  obtain ⟨C, cap, o, c, h1, h2, h3, h4, h5⟩ := h
  exact ended_c W h1
theorem PSt.put (h : PSt b W F P s) (hok : s.Ok) (hb : b ≤ W.heap.size) (x : Int) : Calls Try.prog 20 #[.pointer (some ⟨P, 0, none⟩), .int .u8 x] W fun r W' => r = .returned (.int .i64 (putE s)) ∧ PSt b W' (nw F W) P (putS s x) ∧ Oth F W W' := by
  have h0 := h
  obtain ⟨C, cap, o, c, h1, h2, h3, h4, h5⟩ := h
  unfold putE putS
  by_cases hn : s.out.length = 1048576
  · refine (put_full x W h1 hn).mono ?_
    rintro r W' ⟨rfl, rfl⟩
    rw [if_pos hn, if_pos hn]
    exact ⟨rfl, h0.mono (fun k hk => .inl hk), Oth.refl _ _⟩
  · refine (put_ok x W h1 b s.out rfl h2 hb (by have := hok.out; omega)).mono ?_
    rintro r W' ⟨rfl, o', c', h6, h7, h8, h9⟩
    rw [if_neg hn, if_neg hn]
    have ho : Oth F W W' := ⟨h8.os, h8.tape, h8.output, h8.size, fun k hk hn => h8.block k hk (fun e => hn (e.elim (fun e => by rw [e]; exact h3) (h5 k)))⟩
    refine ⟨rfl, ⟨C, cap, o', c', ?_, ?_, .inl h3, .inl h4, ?_⟩, ho⟩
    · show WdAt W' P C cap (s.inn.drop s.rd) s.inn.length s.en o' (s.out ++ [x]).length c'
      rw [List.length_append]; exact h6
    · show W'.ownsRow b 5 1 (.slice o' (s.out ++ [x]).length c') (s.out ++ [x]).length (vals (s.out ++ [x]))
      rw [List.length_append]; exact h7
    · intro k hk
      have hk' : Value.ownBlock (.slice o' (s.out.length + 1) c') = some k := by
        have : (s.out ++ [x]).length = s.out.length + 1 := by simp
        rw [← this]; exact hk
      rcases h9 k hk' with h9 | h9
      · exact .inl (h5 k h9)
      · exact .inr h9
set_option maxRecDepth 100000 in
set_option maxHeartbeats 1000000 in
theorem PSt.outs (h : PSt b W F P s) (hok : s.Ok) : Calls Try.prog 21 #[.pointer (some ⟨P, 0, none⟩)] W (Cloned s.out.length s.out W) := by
  obtain ⟨C, cap, o, c, h1, h2, h3, h4, h5⟩ := h
  have HM : Hid (Calls Try.prog 22 #[.pointer (some ⟨P, 0, none⟩)] W fun r W' => r = .returned (.bool true) ∧ W' = W) := made_c W h1
  obtain ⟨c0, c1, c2, c3, c4, f0, f1, f2, f3, f4⟩ := h1.blk.all5
  have HC : Hid (Calls Try.prog 34 #[.slice o s.out.length c] W (Cloned s.out.length s.out W)) := clone_c o s.out.length c s.out rfl hok.out (fun e => ⟨List.length_eq_zero_iff.1 (own_none h2 e).1, (own_none h2 e).2⟩) W (owns_byt h2)
  clear h1 h2
  generalize s.out.length = n at *
  go_enter Try.func21, Try.ntmps21
  go_wp2_with (go_at_call 22; fail)
  refine HM.out.mono ?_
  rintro r w1 ⟨rfl, rfl⟩
  go_wp2_with (go_at_call 34; fail)
  refine HC.out.mono ?_
  rintro r w2 ⟨o', c', rfl, h6, h7⟩
  have H2 : Hid (BytAt w2 o' s.out ∧ Below w1.heap.size w1 w2) := ⟨h6, h7⟩
  clear h6 h7
  go_wp2
  go_ret
  exact ⟨o', c', rfl, H2.out⟩
end
end Go.Proofs.Ytkjbdjobglnphaa
