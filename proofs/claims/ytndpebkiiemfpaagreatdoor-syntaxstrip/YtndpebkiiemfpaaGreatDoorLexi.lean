/-
  The kind of the lexeme that a name is, by contracts.
  Kinds of names that were asked for are kept in a map: by a contract.
-/
import Derived.Test.YtndpebkiiemfpaaGreatDoorAll
import Derived.Test.YtndpebkiiemfpaaGreatDoorNd
import Derived.Test.YtndpebkiiemfpaaGreatDoorKp0
namespace Go.Proofs.YtndpebkiiemfpaaGreatDoor
open Go.RowKit Go.Shelf Go.Maps
set_option linter.unusedVariables false

/-- The kind of the lexeme that all of a name is; 0 if it is none. -/
def lkM (s : ByteArray) : Int :=
  if (chk s).1 = 0 then
    match M.scanAll s.data.toList with
    | .inr [t] => if t.t.text = s.data.toList then (t.t.kind : Int) else 0
    | _ => 0
  else 0

theorem owns_len3 {W : World} {b e z n : Nat} {v : Value} {xs : List Value} (h : W.ownsRow b e z v n xs) : ∃ (o : Option Addr) (c : Nat), v = .slice o n c := by
  rcases h with ⟨hl, ⟨rfl, h0⟩ | ⟨g, cap, cur, rfl, h1⟩⟩
  · exact ⟨none, 0, by rw [h0]⟩
  · exact ⟨_, _, rfl⟩

theorem chkTwo (s : ByteArray) : chk s = (0, 0) ∨ (chk s).1 ≠ 0 := by
  have hf : ∀ (l : List UInt8) (i : Nat), fb l i = (0, 0) ∨ (fb l i).1 ≠ 0 := by
    intro l
    induction l with
    | nil => intro i; exact .inl rfl
    | cons b l ih =>
      intro i
      unfold fb
      split
      · exact ih _
      · exact .inr (show (4 : Int) ≠ 0 by decide)
  unfold chk
  split
  · exact .inr (by decide)
  · exact hf _ _

theorem chk_zero (s : ByteArray) (a : Int) (h : chk s = (0, a)) : a = 0 := by
  rcases chkTwo s with h' | h'
  · rw [h] at h'; simpa using h'
  · rw [h] at h'; exact absurd rfl h'
set_option maxRecDepth 100000 in
set_option maxHeartbeats 4000000 in
theorem lexemeKind_c (s : ByteArray) (w : World) (hG : GOK w) :
    Calls Tryz.prog 167 #[.string s] w fun e W' => e = .returned (.int .i64 (lkM s)) ∧ Below w.heap.size w W' := by
  obtain ⟨⟨er, at0⟩, hck⟩ : ∃ x, chk s = x := ⟨_, rfl⟩
  by_cases he : er = 0
  · subst he
    have h0 : at0 = 0 := chk_zero s at0 hck
    subst h0
    have hsz : s.size ≤ 70000 := by
      unfold chk at hck
      split at hck
      · simp at hck
      · omega
    have HA : Hid (Calls Tryz.prog 10 #[.string s] w fun r W' => ∃ v f, r = .returned (.tuple #[v, f]) ∧ Below w.heap.size w W' ∧ Hid (AllPost s w W' v f)) := all_ok s hsz hck w hG
    have HL : Hid (lkM s = match M.scanAll s.data.toList with | .inr [t] => if t.t.text = s.data.toList then (t.t.kind : Int) else 0 | _ => 0) := by show _ = _; unfold lkM; rw [hck, if_pos rfl]
    clear hck hsz hG
    cases hsc : M.scanAll s.data.toList with
    | inl a =>
      rw [hsc] at HL
      have HP : Hid (∀ W' v f, AllPost s w W' v f → v = .slice none 0 0 ∧ f = faultV 4 (a : Int)) := by
        intro W' v f h; unfold AllPost at h; rw [hsc] at h; exact h
      clear hsc
      go_enter Tryz.func167, Tryz.ntmps167
      go_wp2_with (go_at_call 10; fail)
      refine HA.out.mono ?_
      rintro e w1 ⟨v, f, rfl, hb, hp⟩
      obtain ⟨rfl, rfl⟩ := HP.out _ _ _ hp.out
      have HB : Hid (Below w.heap.size w w1) := hb
      unfold faultV
      clear hb hp HP HA
      go_wp2
      go_ret
      exact ⟨by rw [HL.out]; rfl, HB.out.alloc HB.out.size _⟩
    | inr ts =>
      rw [hsc] at HL
      have HP : Hid (∀ W' v f, AllPost s w W' v f → f = faultV 0 0 ∧ ts.length ≤ s.size ∧ W'.ownsRow w.heap.size 39 7 v ts.length (tksC ts)) := by
        intro W' v f h; unfold AllPost at h; rw [hsc] at h; exact h
      clear hsc
      go_enter Tryz.func167, Tryz.ntmps167
      go_wp2_with (go_at_call 10; fail)
      refine HA.out.mono ?_
      rintro e w1 ⟨v, f, rfl, hb, hp⟩
      obtain ⟨rfl, hle, hown⟩ := HP.out _ _ _ hp.out
      have HB : Hid (Below w.heap.size w w1) := hb
      unfold faultV
      clear hb hp HP HA hle
      match ts, hown, HL with
      | [], hown, HL =>
        obtain ⟨o, c, rfl⟩ := owns_len3 hown
        clear hown
        go_wp2
        go_ret
        exact ⟨by rw [HL.out]; rfl, HB.out.alloc HB.out.size _⟩
      | [t], hown, HL =>
        obtain ⟨o, c, rfl⟩ := owns_len3 hown
        have hog : ∃ g, o = some ⟨g, 0, none⟩ := by
          rcases hown with ⟨_, ⟨h2, h0⟩ | ⟨g, cap', cur, h2, _⟩⟩
          · simp at h0
          · simp only [Value.slice.injEq] at h2; exact ⟨g, h2.1⟩
        obtain ⟨g, rfl⟩ := hog
        have c0 : w1.cell? ⟨g, 0, none⟩ = some (.int .i64 (t.t.kind : Int)) := hown.cellAt 0 (by simp)
        have c1 : w1.cell? ⟨g, 1, none⟩ = some (.string (bs t.t.text)) := hown.cellAt 1 (by simp)
        have hgl : g < w1.heap.size := (hown.lt g rfl).2
        have HL2 : Hid (lkM s = if t.t.text = s.data.toList then (t.t.kind : Int) else 0) := HL.out
        generalize t.t.text = tx at c1 HL2
        generalize t.t.kind = kd at c0 HL2
        clear hown HL
        by_cases htx : tx = s.data.toList
        · rw [if_pos htx] at HL2
          have hbs : bs tx = s := by subst htx; rfl
          rw [hbs] at c1
          clear htx hbs
          go_wp2
          go_ret
          exact ⟨by rw [HL2.out]; rfl, HB.out.alloc HB.out.size _⟩
        · rw [if_neg htx] at HL2
          have e2 : ((bs tx).toList == s.toList) = false := by
            rw [beq_eq_false_iff_ne, ByteArray.toList_eq, ByteArray.toList_eq]
            exact htx
          clear htx
          go_wp2
          go_ret
          exact ⟨by rw [HL2.out]; rfl, HB.out.alloc HB.out.size _⟩
      | t1 :: t2 :: ts, hown, HL =>
        obtain ⟨o, c, rfl⟩ := owns_len3 hown
        obtain ⟨m, hm⟩ : ∃ m, (t1 :: t2 :: ts).length = m := ⟨_, rfl⟩
        have hm2 : 2 ≤ m := by rw [← hm]; simp
        have e1 : ((m : Int) != 1) = true := by simp; omega
        rw [hm]
        clear hown hm hm2
        go_wp2
        go_ret
        exact ⟨by rw [HL.out]; rfl, HB.out.alloc HB.out.size _⟩
  · have HA : Hid (Calls Tryz.prog 10 #[.string s] w fun r W' => r = .returned (.tuple #[.slice none 0 0, faultV er at0]) ∧ Below w.heap.size w W') := all_bad s er at0 hck he w
    have HL : Hid (lkM s = 0) := by show _ = _; unfold lkM; rw [hck, if_neg he]
    clear hck hG he
    go_enter Tryz.func167, Tryz.ntmps167
    go_wp2_with (go_at_call 10; fail)
    refine HA.out.mono ?_
    rintro e w1 ⟨rfl, hb⟩
    have HB : Hid (Below w.heap.size w w1) := hb
    unfold faultV
    clear hb HA
    go_wp2
    go_ret
    exact ⟨by rw [HL.out]; rfl, HB.out.alloc HB.out.size _⟩
end Go.Proofs.YtndpebkiiemfpaaGreatDoor

namespace Go.Proofs.YtndpebkiiemfpaaGreatDoor
open Go.RowKit Go.Shelf Go.Maps
set_option linter.unusedVariables false

theorem GOK.but {w w' : World} {b : Nat} (h : GOK w) (hb : But b w w') (hs : 6 ≤ b) : GOK w' := by
  have hB : Below 6 w w' := hb.below hs h.size
  obtain ⟨e1, h1, k1⟩ := h.syn
  obtain ⟨e2, h2, k2⟩ := h.rng
  refine ⟨⟨e1, ?_, k1⟩, ⟨e2, ?_, k2⟩, ?_, Nat.le_trans h.size hb.size⟩
  · exact (hB.cell (p := ⟨4, 0, none⟩) (by show 4 < 6; decide)).trans h1
  · exact (hB.cell (p := ⟨5, 0, none⟩) (by show 5 < 6; decide)).trans h2
  · have hn : Tryz.prog.globalNamed "internal/strconv.uint64pow10" = some 0 := by kernel_rfl
    have hp := h.pow
    simp only [Lib.TabIs, World.var?, hn, Option.bind_some] at hp ⊢
    rw [hB.block 0 (by decide)]
    exact hp

/-- The map holds kinds of names. -/
def LexSt (W : World) (bl c : Nat) : Prop := ∃ D : DataW Value, W.ownsMap Tryz.prog 9 heldElem bl c D ∧ Maps.IsMap D ∧ ∀ x : List UInt8, Maps.has D (.string x) = true → D.atKey (.string x) (.held (.int .i64 0)) = .held (.int .i64 (lkM (bs x)))
theorem LexSt.lt {W : World} {bl c : Nat} (h : LexSt W bl c) : bl < W.heap.size := by
  obtain ⟨D, h1, _⟩ := h
  exact h1.lt
theorem LexSt.below {W W' : World} {bl c : Nat} (h : LexSt W bl c) (hb : Below W.heap.size W W') : LexSt W' bl c := by
  obtain ⟨D, h1, h2⟩ := h
  have hlt := h1.lt
  obtain ⟨es, clock, k1, k2⟩ := h1
  exact ⟨D, ⟨es, clock, by rw [hb.block bl hlt]; exact k1, k2⟩, h2⟩
theorem LexSt.mono {W : World} {bl c c' : Nat} (h : LexSt W bl c) (hc : c ≤ c') : LexSt W bl c' := by
  obtain ⟨D, h1, h2⟩ := h
  exact ⟨D, h1.mono hc, h2⟩
theorem lexSt_new (W : World) : LexSt (W.alloc (.map #[] 0)) W.heap.size 0 := ⟨.map [], World.ownsMap_made W Tryz.prog 9 heldElem, ⟨_, rfl⟩, fun x h => by cases h⟩
theorem zero3 (w : World) : (zeroValue 3).run Tryz.prog w = .ok (.int .i64 0) w := by kernel_rfl
theorem key_strN (s : ByteArray) (h : s.size ≤ 9223372036854775807) : keyOf Tryz.prog 9 (.string s) = some (.string s.data.toList) := key_str s (by unfold maxLen; exact h)

set_option maxRecDepth 100000 in
set_option maxHeartbeats 4000000 in
theorem kind_c (s : ByteArray) (hs : s.size ≤ 9223372036854775807) (bl c : Nat) (hc : c ≤ 4611686018427387904) (w : World) (hG : GOK w) (h : LexSt w bl c) :
    Calls Tryz.prog 133 #[.map (some bl), .string s] w fun e W' => e = .returned (.int .i64 (lkM s)) ∧ But bl w W' ∧ LexSt W' bl (c + 1) := by
  obtain ⟨D, hown, hD, hall⟩ := h
  obtain ⟨v, ps, hrun, hv⟩ := hown.look_ok (string_keyed Tryz.underlying9) Tryz.underlying54 (zero3 w) (zd := .held (.int .i64 0)) (zp := []) rfl (key_strN s hs)
  cases hhas : Maps.has D (.string s.data.toList) with
  | true =>
    rw [hall _ hhas] at hv
    obtain rfl := heldElem_inv hv
    rw [hhas] at hrun
    have HS : Hid (LexSt w bl (c + 1)) := LexSt.mono ⟨D, hown, hD, hall⟩ (by omega)
    have HL : Hid (lkM (bs s.data.toList) = lkM s) := rfl
    generalize lkM (bs s.data.toList) = kd at hrun HL
    clear hown hD hall hv hhas hG hs hc
    go_enter Tryz.func133, Tryz.ntmps133
    go_wp2
    go_ret
    exact ⟨by rw [← HL.out]; rfl, But.refl _ _, HS.out⟩
  | false =>
    rw [hhas] at hrun
    have hv0 : v = .int .i64 0 := by
      rw [Maps.atKey_of_not_has hhas] at hv
      exact heldElem_inv hv
    subst hv0
    have HC : Hid (Calls Tryz.prog 167 #[.string s] w fun e W' => e = .returned (.int .i64 (lkM s)) ∧ Below w.heap.size w W') := lexemeKind_c s w hG
    have HU : Hid (∀ w1 : World, Below w.heap.size w w1 → ∃ w2, (Instr.mapUpdate 54 (.map (some bl)) (.string s) (.int .i64 (lkM s))).run Tryz.prog w1 = .ok () w2 ∧ But bl w w2 ∧ LexSt w2 bl (c + 1)) := by
      intro w1 hb
      have hown1 : w1.ownsMap Tryz.prog 9 heldElem bl c D := by
        have hlt := hown.lt
        obtain ⟨es, clock, k1, k2⟩ := hown
        exact ⟨es, clock, by rw [hb.block bl hlt]; exact k1, k2⟩
      obtain ⟨w2, hr, ho, hg⟩ := hown1.update (val := .int .i64 (lkM s)) (string_keyed Tryz.underlying9) Tryz.underlying54 (by unfold maxLen; omega) (key_strN s hs) (d := .held (.int .i64 (lkM s))) (ps := []) rfl
      refine ⟨w2, hr, (but_below hb bl).trans ⟨hg.os, hg.tape, hg.output, hg.size, fun k hk hne => hg.block k hk (by simpa using hne)⟩, D.put (.string s.data.toList) (.held (.int .i64 (lkM s))), ho, ?_, fun x hx => ?_⟩
      · obtain ⟨es, rfl⟩ := hD
        exact ⟨_, rfl⟩
      · by_cases hxs : x = s.data.toList
        · subst hxs
          rw [Maps.atKey_put_same hD (by constructor)]
          rfl
        · rw [Maps.atKey_put_other (by simpa using hxs)]
          rw [Maps.has_put_other (by simpa using hxs)] at hx
          exact hall x hx
    generalize lkM s = kd at HC HU
    clear hown hD hall hv hhas hG hs hc
    go_enter Tryz.func133, Tryz.ntmps133
    go_wp2_with (go_at_call 167; fail)
    refine HC.out.mono ?_
    rintro e w1 ⟨rfl, hb⟩
    obtain ⟨w2, hr, hbt, hlx⟩ := HU.out w1 hb
    have H1 : Hid (But bl w w2) := hbt
    have H2 : Hid (LexSt w2 bl (c + 1)) := hlx
    clear hb hbt hlx HC HU hrun
    go_wp2
    go_ret
    exact ⟨rfl, H1.out, H2.out⟩
end Go.Proofs.YtndpebkiiemfpaaGreatDoor
