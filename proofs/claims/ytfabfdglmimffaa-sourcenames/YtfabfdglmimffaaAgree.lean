/-
  Where the program's answers and the document's meet.
-/
import Derived.WalkKit
import Derived.Test.YtfabfdglmimffaaRefLines
namespace Go.Proofs.Ytfabfdglmimffaa
open Go.RowKit Go.Shelf
set_option linter.unusedVariables false

theorem lns_head (l : List UInt8) (st : Nat) (cur : List UInt8) (st' : Nat) (T : List UInt8) (h : (M.lns st cur l)[0]? = some (st', T)) : st' = st ∧ cur <+: T := by
  obtain ⟨a, B, h1, h2, h3⟩ := M.lns_at l st cur 0 (Nat.zero_le _)
  simp only [List.take_zero, M.sta_nil, Nat.sub_self, Nat.add_zero] at h1 h2 h3
  rw [h1] at h
  cases h
  exact ⟨by omega, h3⟩

theorem lns_conv : ∀ (l : List UInt8) (st : Nat) (cur : List UInt8) (idx st' : Nat) (T : List UInt8) (j : Nat), (M.lns st cur l)[idx]? = some (st', T) → j ≤ T.length → (idx = 0 → cur.length ≤ j) →
    st + cur.length ≤ st' + j ∧ st' + j ≤ st + cur.length + l.length ∧ M.sta 1 cur (l.take (st' + j - (st + cur.length))) = (idx + 1, T.take j)
  | [], st, cur, idx, st', T, j, h, hj, h0 => by
    rw [M.lns] at h
    cases idx with
    | succ i => simp at h
    | zero =>
      have h' : (st, cur) = (st', T) := by simpa using h
      cases h'
      have := h0 rfl
      obtain rfl : j = cur.length := by omega
      refine ⟨Nat.le_refl _, by simp, ?_⟩
      simp [M.sta]
  | b :: l, st, cur, idx, st', T, j, h, hj, h0 => by
    by_cases hb : b = 10
    · rw [M.lns, if_pos hb] at h
      cases idx with
      | zero =>
        have h' : (st, cur) = (st', T) := by simpa using h
        cases h'
        have := h0 rfl
        obtain rfl : j = cur.length := by omega
        refine ⟨Nat.le_refl _, by simp, ?_⟩
        simp [M.sta]
      | succ i =>
        have h' : (M.lns (st + cur.length + 1) [] l)[i]? = some (st', T) := by simpa using h
        obtain ⟨g1, g2, g3⟩ := lns_conv l (st + cur.length + 1) [] i st' T j h' hj (fun _ => by simp)
        simp only [List.length_nil, Nat.add_zero] at g1 g2 g3
        refine ⟨by omega, by simp; omega, ?_⟩
        have hk : st' + j - (st + cur.length) = (st' + j - (st + cur.length + 1)) + 1 := by omega
        rw [hk, List.take_succ_cons, M.sta_cons, if_pos hb, M.sta_shift, g3]
    · rw [M.lns, if_neg hb] at h
      by_cases hk0 : idx = 0 ∧ j = cur.length
      · obtain ⟨rfl, rfl⟩ := hk0
        obtain ⟨rfl, hp⟩ := lns_head l st (cur ++ [b]) st' T h
        have hp' : cur <+: T := (List.prefix_append cur [b]).trans hp
        refine ⟨Nat.le_refl _, by simp, ?_⟩
        have e := List.prefix_iff_eq_take.1 hp'
        rw [Nat.sub_self, List.take_zero, M.sta_nil, ← e]
      · obtain ⟨g1, g2, g3⟩ := lns_conv l st (cur ++ [b]) idx st' T j h hj (fun e => by have := h0 e; simp; omega)
        simp only [List.length_append, List.length_cons, List.length_nil, Nat.zero_add] at g1 g2 g3
        refine ⟨by omega, by simp; omega, ?_⟩
        have hk : st' + j - (st + cur.length) = (st' + j - (st + (cur.length + 1))) + 1 := by omega
        rw [hk, List.take_succ_cons, M.sta_cons, if_neg hb, g3]

theorem LN_conv (s : ByteArray) (k : Nat) (x : Nat × ByteArray) (j : Nat) (h : (M.LN s 0)[k]? = some x) (hj : j ≤ x.2.size) : x.1 + j ≤ s.size ∧ lineK s (x.1 + j) = k + 1 ∧ colK s (x.1 + j) = M.colAt (x.2.data.toList.take j) := by
  rw [M.LN, List.drop_zero, List.getElem?_map] at h
  cases hl : (M.lns 0 [] s.data.toList)[k]? with
  | none => rw [hl] at h; simp at h
  | some p =>
    rw [hl] at h
    simp at h
    subst h
    obtain ⟨st', T⟩ := p
    rw [M.mk_size] at hj
    obtain ⟨g1, g2, g3⟩ := lns_conv s.data.toList 0 [] k st' T j hl hj (fun _ => by simp)
    simp only [List.length_nil, Nat.add_zero, Nat.zero_add, Nat.sub_zero] at g1 g2 g3
    refine ⟨by rw [Lib.size_eq]; exact g2, ?_, ?_⟩
    · unfold lineK M.at'; rw [g3]
    · unfold colK M.at'; rw [g3]; rfl

theorem at_agree (s : ByteArray) (line col : Int) (v v' : Value) (hv : AtSays s line col v) (hr : RefAt s line col v') : v = v' := by
  rcases hr with ⟨k, hk, rfl, rfl, rfl⟩ | ⟨hno, rfl⟩
  · exact at_says s k hk v hv
  · rcases hv with ⟨k, x, j, hl, hx, hj, hc, rfl⟩ | ⟨_, rfl⟩
    · exfalso
      obtain ⟨g1, g2, g3⟩ := LN_conv s k x j hx hj
      exact hno (x.1 + j) g1 ⟨by rw [g2, hl]; omega, by rw [g3, hc]⟩
    · rfl

theorem indent_agree (s : ByteArray) (line : Int) (v v' : Value) (h : IndentSays s line v) (h' : IndentSays s line v') : v = v' := by
  have key : ∀ (k : Nat) (x : Nat × ByteArray), (M.LN s 0)[k]? = some x → k < (M.LN s 0).length := fun k x hx => (List.getElem?_eq_some_iff.1 hx).1
  rcases h with ⟨k, x, j, hl, hx, hc, hf, rfl⟩ | ⟨k, x, hl, hx, hn, rfl⟩ | ⟨hn, rfl⟩
  · rcases h' with ⟨k', x', j', hl', hx', hc', hf', rfl⟩ | ⟨k', x', hl', hx', hn', rfl⟩ | ⟨hn', rfl⟩
    · obtain rfl : k = k' := by omega
      rw [hx] at hx'
      cases hx'
      obtain rfl : j = j' := by
        rcases Nat.lt_trichotomy j j' with hlt | he | hlt
        · exact absurd hc (hf' j hlt)
        · exact he
        · exact absurd hc' (hf j' hlt)
      rfl
    · obtain rfl : k = k' := by omega
      rw [hx] at hx'
      cases hx'
      exact absurd hc (hn' j)
    · exact absurd hl (hn' k (key k x hx))
  · rcases h' with ⟨k', x', j', hl', hx', hc', hf', rfl⟩ | ⟨k', x', hl', hx', hn', rfl⟩ | ⟨hn', rfl⟩
    · obtain rfl : k = k' := by omega
      rw [hx] at hx'
      cases hx'
      exact absurd hc' (hn j')
    · rfl
    · exact absurd hl (hn' k (key k x hx))
  · rcases h' with ⟨k', x', j', hl', hx', hc', hf', rfl⟩ | ⟨k', x', hl', hx', hn', rfl⟩ | ⟨hn', rfl⟩
    · exact absurd hl' (hn k' (key k' x' hx'))
    · exact absurd hl' (hn k' (key k' x' hx'))
    · rfl

set_option maxRecDepth 100000 in
set_option maxHeartbeats 4000000 in
theorem refIndent_yes (s : ByteArray) (q : Nat) (hq : q < (M.LN s 0).length) (hs : s.size ≤ 4000) (w : World) :
    Calls Try.prog 15 #[.string s, .int .i64 ((q : Int) + 1)] w fun e W' => ∃ v, e = .returned v ∧ IndentSays s ((q : Int) + 1) v ∧ Below w.heap.size w W' := by
  have hln := (M.LN_length s 0).2
  have hq1 : decide ((q : Int) + 1 < 1) = false := by simp; omega
  have hq2 : (q : Int) ≤ 4001 := by omega
  have HX : Hid ((M.LN s 0)[q]? = some (M.LN s 0)[q]) := List.getElem?_eq_getElem hq
  have hTs : (M.LN s 0)[q].2.size ≤ 4000 := Nat.le_trans (M.LN_size s 0 _ (List.getElem_mem hq)) hs
  go_enter Try.func15, Try.ntmps15
  go_wp2_with (go_at_call 18; refine (refLines_c2 s hs _).mono ?_; rintro e w1 ⟨m, g, cap, rfl, hm, hg, ht, hb1⟩; have hqm : (q : Int) < (m : Int) + 1 := (by have := hm.out; omega); have hqm2 : decide (m < q) = false := (by simp; omega); have hc := ht.out q hq)
  generalize (M.LN s 0)[q] = x at *
  obtain ⟨st, T⟩ := x
  dsimp only at *
  clear ht hm
  go_loop [8, 9] (fun c i => ∃ k : Nat, k ≤ T.size ∧ i = .int .i64 k ∧ c = .int .i64 (M.colAt (T.data.toList.take k)) ∧ Hid (∀ j, j < k → ¬ Counts T j)) (fun _ i => T.size - (intOf i).toNat)
  case atStart => exact ⟨0, Nat.zero_le _, rfl, rfl, (fun j hj => by omega : ∀ j, j < 0 → ¬ Counts T j)⟩
  case round =>
    obtain ⟨k, hk, rfl, rfl, hno⟩ := hrel
    have hcb := M.colF_bd T k hk
    by_cases hlt : k < T.size
    · have hstep : Hid (M.colAt (T.data.toList.take (k + 1)) = M.bh T[k] (M.colAt (T.data.toList.take k))) := M.colF_step T k hlt
      by_cases hb : T[k] = 32
      · have Hc : Hid (∀ j, j < k + 1 → ¬ Counts T j) := fun j hj hcj => by
          by_cases hjk : j < k
          · exact hno.out j hjk hcj
          · obtain rfl : j = k := by omega
            exact hcj.2.1 hb
        have hqq : (((T[k].toNat : Nat) : Int) != 32) = false := by rw [hb]; rfl
        clear hb
        go_wp2_with (go_at_call 23; refine (next_c T[k] (M.colAt (T.data.toList.take k)) (by omega) (by omega) _).mono ?_; rintro e w' ⟨rfl, rfl⟩)
        go_round
        case rel => exact ⟨k + 1, by omega, by go_num, by rw [hstep.out], Hc⟩
        case measure => simp [intOf]; omega
      · by_cases hb9 : T[k] = 9
        · have Hc : Hid (∀ j, j < k + 1 → ¬ Counts T j) := fun j hj hcj => by
            by_cases hjk : j < k
            · exact hno.out j hjk hcj
            · obtain rfl : j = k := by omega
              exact hcj.2.2 hb9
          have hqq : (((T[k].toNat : Nat) : Int) != 32) = true := byte_ne (c := 32) (by omega) hb
          have hq9 : (((T[k].toNat : Nat) : Int) != 9) = false := by rw [hb9]; rfl
          clear hb hb9
          go_wp2_with (go_at_call 23; refine (next_c T[k] (M.colAt (T.data.toList.take k)) (by omega) (by omega) _).mono ?_; rintro e w' ⟨rfl, rfl⟩)
          go_round
          case rel => exact ⟨k + 1, by omega, by go_num, by rw [hstep.out], Hc⟩
          case measure => simp [intOf]; omega
        · have Hc : Hid (Counts T k) := ⟨hlt, hb, hb9⟩
          have hqq : (((T[k].toNat : Nat) : Int) != 32) = true := byte_ne (c := 32) (by omega) hb
          have hq9 : (((T[k].toNat : Nat) : Int) != 9) = true := byte_ne (c := 9) (by omega) hb9
          clear hb hb9
          go_wp2
          go_ret2
          exact ⟨_, rfl, .inl ⟨q, (st, T), k, rfl, HX.out, Hc.out, hno.out, rfl⟩, hb1⟩
    · go_wp2
      go_ret2
      refine ⟨_, rfl, .inr (.inl ⟨q, (st, T), rfl, HX.out, fun i hi => ?_, rfl⟩), hb1⟩
      have hi' : Counts T i := hi
      obtain ⟨h', _⟩ := hi'
      exact hno.out i (by omega) hi

set_option maxRecDepth 100000 in
set_option maxHeartbeats 2000000 in
theorem refIndent_no (s : ByteArray) (line : Int) (hl : line < 1 ∨ ((M.LN s 0).length : Int) < line) (hs : s.size ≤ 4000) (w : World) :
    Calls Try.prog 15 #[.string s, .int .i64 line] w fun e W' => ∃ v, e = .returned v ∧ IndentSays s line v ∧ Below w.heap.size w W' := by
  have hno : Hid (∀ k : Nat, k < (M.LN s 0).length → line ≠ (k : Int) + 1) := fun k hk e => by omega
  by_cases h1 : line < 1
  · go_enter Try.func15, Try.ntmps15
    go_wp2_with (go_at_call 18; refine (refLines_c2 s hs _).mono ?_; rintro e w1 ⟨m, g, cap, rfl, hm, hg, ht, hb1⟩)
    go_ret2
    exact ⟨_, rfl, .inr (.inr ⟨hno.out, rfl⟩), hb1⟩
  · have h2 : ((M.LN s 0).length : Int) < line := by omega
    go_enter Try.func15, Try.ntmps15
    go_wp2_with (go_at_call 18; refine (refLines_c2 s hs _).mono ?_; rintro e w1 ⟨m, g, cap, rfl, hm, hg, ht, hb1⟩; have hml : (m : Int) + 1 < line := (by have := hm.out; omega))
    go_ret2
    exact ⟨_, rfl, .inr (.inr ⟨hno.out, rfl⟩), hb1⟩

theorem refIndent_c (s : ByteArray) (line : Int) (hs : s.size ≤ 4000) (w : World) :
    Calls Try.prog 15 #[.string s, .int .i64 line] w fun e W' => ∃ v, e = .returned v ∧ IndentSays s line v ∧ Below w.heap.size w W' := by
  by_cases h : 1 ≤ line ∧ line ≤ ((M.LN s 0).length : Int)
  · obtain ⟨q, rfl⟩ : ∃ q : Nat, line = (q : Int) + 1 := ⟨(line - 1).toNat, by omega⟩
    exact refIndent_yes s q (by omega) hs w
  · exact refIndent_no s line (by omega) hs w

end Go.Proofs.Ytfabfdglmimffaa
