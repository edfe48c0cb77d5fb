/-
  Package groups: turns are added and taken, by contracts.
-/
import Derived.Test.YtkkpkcigflikkaaKf
namespace Go.Proofs.Ytkkpkcigflikkaa
open Go.RowKit Go.Shelf Go.Maps G
set_option linter.unusedVariables false
set_option maxHeartbeats 4000000 in
set_option maxRecDepth 100000 in
theorem heapPush_c (T : Nat) (v : Value) (l : List Nat) (x : Nat) (hl : l.length ≤ 90000) (hH : Hp l l.length) (w : World) (h : TurnAt w T v l) : Calls Try.prog 40 #[.iface 69 (.pointer (some ⟨T, 0, none⟩)), .iface 3 (.int .i64 (x : Int))] w fun r W' => r = .returned (.tuple #[]) ∧ (∃ v' l', TurnAt W' T v' l' ∧ l'.Perm (l ++ [x]) ∧ Hp l' l'.length ∧ Fr T v w W' v') ∧ Below T w W' := by
  have n1 := nilPush
  have n2 := nilLen
  have m1 := methPush
  have HP : Hid (Calls Try.prog 92 #[.pointer (some ⟨T, 0, none⟩), .iface 3 (.int .i64 (x : Int))] w fun r W' => r = .returned (.tuple #[]) ∧ (∃ v', TurnAt W' T v' (l ++ [x]) ∧ Fr T v w W' v') ∧ Below T w W') := hPush_c T v l x (by omega) w h
  have HH : Hid (Hp l l.length ∧ l.length ≤ 90000) := ⟨hH, hl⟩
  obtain ⟨m, hm⟩ : ∃ m, l.length = m := ⟨_, rfl⟩
  have hmi : (m : Int) ≤ 90000 := by omega
  have HM : Hid (l.length = m) := hm
  clear h hl hH hm
  go_enter Try.func40, Try.ntmps40
  go_wp2_with (go_at_call 92; fail)
  refine HP.out.mono ?_
  rintro e w1 ⟨rfl, ⟨v1, ht1, hf1⟩, hb1⟩
  have HT1 : Hid (TurnAt w1 T v1 (l ++ [x]) ∧ Below T w w1 ∧ Fr T v w w1 v1) := ⟨ht1, hb1, hf1⟩
  have hlen : (l ++ [x]).length = m + 1 := by rw [List.length_append, HM.out]; rfl
  obtain ⟨o1, c1, rfl, hc1, hc2⟩ := owns_form ht1.r
  rw [hlen] at ht1 hc1
  have bT := ht1.b.cell 0 _ rfl
  have lT := ht1.b.lt
  have m2 := methLen bT
  have HU : Hid (Calls Try.prog 45 #[.iface 69 (.pointer (some ⟨T, 0, none⟩)), .int .i64 (m : Int)] w1 fun r W' => r = .returned (.tuple #[]) ∧ (∃ l', TurnAt W' T (.slice o1 (l ++ [x]).length c1) l' ∧ l'.Perm (l ++ [x]) ∧ Hp l' l'.length) ∧ Below (T + 1) w1 W' ∧ Fr T (.slice o1 (l ++ [x]).length c1) w1 W' (.slice o1 (l ++ [x]).length c1)) := up_c T _ (l ++ [x]) m (by have := HH.out.2; have := HM.out; omega) (by omega) (by have h9 := HH.out.1.push (x := x); rw [hlen]; rw [HM.out] at h9; exact h9) w1 HT1.out.1
  have HL : Hid (∀ X : World, Calls Try.prog 33 #[.slice o1 (m + 1) c1] X fun r W' => r = .returned (.int .i64 ((m + 1 : Nat) : Int)) ∧ W' = X) := fun X => hLen_c o1 (m + 1) c1 (by omega) X
  clear ht1 hb1 hf1 hlen hc1 hc2 HP
  go_wp2_with (go_at_call 33; fail)
  refine (HL.out _).mono ?_
  rintro e w2 ⟨rfl, hw2⟩
  have hw3 := hw2.symm
  subst hw3
  clear hw2
  go_wp2_with (go_at_call 45; fail)
  refine HU.out.mono ?_
  rintro e w3 ⟨rfl, ⟨l', q1, q2, q3⟩, q4, q5⟩
  have HF : Hid ((∃ v' l', TurnAt w3 T v' l' ∧ l'.Perm (l ++ [x]) ∧ Hp l' l'.length ∧ Fr T v w w3 v') ∧ Below T w w3) := ⟨⟨_, l', q1, q2, q3, HT1.out.2.2.trans q5⟩, HT1.out.2.1.trans (q4.mono (by omega))⟩
  clear q1 q2 q3 q4 q5 HU
  go_wp2
  go_end0
  exact ⟨rfl, HF.out.1, HF.out.2⟩
theorem pop_math {l m : List Nat} {n : Nat} (hl : l.length = n + 1) (hH : Hp l l.length) (hp : m.Perm (sw l 0 n)) (hz : m.getD n 0 = (sw l 0 n).getD n 0) (hD : Hp m n) : ∃ l' x, m = l' ++ [x] ∧ (x :: l').Perm l ∧ Hp l' l'.length ∧ (∀ y ∈ l', x ≤ y) := by
  have hml : m.length = n + 1 := by rw [hp.length_eq, sw_len, hl]
  have hpl : m.Perm l := hp.trans (sw_perm l 0 n (by omega) (by omega))
  have hx : m.getD n 0 = l.getD 0 0 := by rw [hz, sw_at l 0 n n (by omega) (by omega), if_pos rfl]
  obtain ⟨l', x, rfl⟩ : ∃ l' x, m = l' ++ [x] := ⟨m.dropLast, m.getLast (fun e => by rw [e] at hml; simp at hml), (List.dropLast_concat_getLast _).symm⟩
  have hl' : l'.length = n := by simpa using hml
  have hx2 : x = l.getD 0 0 := by
    rw [← hx, List.getD_eq_getElem?_getD, List.getElem?_append_right (by omega), hl', Nat.sub_self]; rfl
  refine ⟨l', x, rfl, ?_, ?_, fun y hy => ?_⟩
  · exact (List.perm_append_singleton x l').symm.trans hpl
  · intro k h1 h2
    have h3 := hD k h1 (by omega)
    have h4 := par_lt h1
    rw [List.getD_eq_getElem?_getD, List.getD_eq_getElem?_getD, List.getElem?_append_left (by omega), List.getElem?_append_left h2] at h3
    rw [List.getD_eq_getElem?_getD, List.getD_eq_getElem?_getD]
    exact h3
  · have hyl : y ∈ l := hpl.mem_iff.1 (List.mem_append_left _ hy)
    obtain ⟨k, hk, rfl⟩ := List.getElem_of_mem hyl
    have := hH.min k hk
    rw [hx2]
    rw [List.getD_eq_getElem?_getD, List.getD_eq_getElem?_getD, List.getElem?_eq_getElem hk] at this
    rw [List.getD_eq_getElem?_getD]
    exact this
set_option maxHeartbeats 4000000 in
set_option maxRecDepth 100000 in
theorem heapPop_c (T : Nat) (v : Value) (l : List Nat) (hl : l.length ≤ 90000) (h0 : l ≠ []) (hH : Hp l l.length) (w : World) (h : TurnAt w T v l) : Calls Try.prog 41 #[.iface 69 (.pointer (some ⟨T, 0, none⟩))] w fun r W' => ∃ x v' l', r = .returned (.iface 3 (.int .i64 ((x : Nat) : Int))) ∧ TurnAt W' T v' l' ∧ (x :: l').Perm l ∧ Hp l' l'.length ∧ (∀ y ∈ l', x ≤ y) ∧ Below T w W' ∧ Fr T v w W' v' := by
  have n1 := nilPop
  have n2 := nilLen
  have n3 := nilSwap
  have m1 := methPop
  obtain ⟨n, hn⟩ : ∃ n, l.length = n + 1 := ⟨l.length - 1, by have := List.length_pos_iff.2 h0; omega⟩
  obtain ⟨o1, c1, hv, hc1, hc2⟩ := owns_form h.r
  subst hv
  have HT : Hid (TurnAt w T (.slice o1 l.length c1) l ∧ Hp l l.length ∧ l.length = n + 1 ∧ n ≤ 90000) := ⟨h, hH, hn, by omega⟩
  have HS : Hid (Calls Try.prog 90 #[.slice o1 (n + 1) c1, .int .i64 0, .int .i64 (n : Int)] w fun r W' => r = .returned (.tuple #[]) ∧ TurnAt W' T (.slice o1 (n + 1) c1) (sw l 0 n) ∧ Below (T + 1) w W' ∧ Fr T (.slice o1 (n + 1) c1) w W' (.slice o1 (n + 1) c1)) := by
    have h1 := hSwap_c T _ l 0 n (by omega) (by omega) w h
    rw [hn] at h1
    exact h1
  have HL : Hid (∀ X : World, Calls Try.prog 33 #[.slice o1 (n + 1) c1] X fun r W' => r = .returned (.int .i64 ((n + 1 : Nat) : Int)) ∧ W' = X) := fun X => hLen_c o1 (n + 1) c1 (by omega) X
  rw [hn] at h
  have bT := h.b.cell 0 _ rfl
  have lT := h.b.lt
  have m2 := methLen bT
  have m3 := methSwap bT
  have hni : (n : Int) ≤ 90000 := by omega
  clear h hl h0 hH hc1 hc2 hn
  go_enter Try.func41, Try.ntmps41
  go_wp2_with (go_at_call 33; fail)
  refine (HL.out _).mono ?_
  rintro e w2 ⟨rfl, hw2⟩
  have hw3 := hw2.symm
  subst hw3
  clear hw2
  go_wp2_with (go_at_call 90; fail)
  refine HS.out.mono ?_
  rintro e w3 ⟨rfl, ht3, hb3, hf3⟩
  have HT3 : Hid (TurnAt w3 T (.slice o1 (n + 1) c1) (sw l 0 n) ∧ Below (T + 1) w w3 ∧ Fr T (.slice o1 (n + 1) c1) w w3 (.slice o1 (n + 1) c1)) := ⟨ht3, hb3, hf3⟩
  have HD : Hid (Calls Try.prog 46 #[.iface 69 (.pointer (some ⟨T, 0, none⟩)), .int .i64 0, .int .i64 (n : Int)] w3 fun r W' => (∃ b, r = .returned (.bool b)) ∧ DnPost w3 T (.slice o1 (n + 1) c1) (sw l 0 n) n W') := down_c T _ (sw l 0 n) n (by rw [sw_len]; exact HT.out.2.2.1) (by have := HT.out.2.2.2; omega) (by have h9 := HT.out.2.1; rw [HT.out.2.2.1] at h9; exact h9.swapped HT.out.2.2.1) w3 ht3
  clear ht3 hb3 hf3 HS HL m2 m3 bT lT
  go_wp2_with (go_at_call 46; fail)
  refine HD.out.mono ?_
  rintro e w4 ⟨⟨b, rfl⟩, ⟨m, q1, q2, q3, q4⟩, q5, q6⟩
  obtain ⟨l', x, hm, p1, p2, p3⟩ := pop_math HT.out.2.2.1 HT.out.2.1 q2 q4 q3
  subst hm
  have hll : l'.length ≤ 90000 := by have := p1.length_eq; have := HT.out.2.2; simp at *; omega
  have HF : Hid ((x :: l').Perm l ∧ Hp l' l'.length ∧ (∀ y ∈ l', x ≤ y) ∧ Below T w w4 ∧ Fr T (.slice o1 (n + 1) c1) w w4 (.slice o1 (n + 1) c1)) := ⟨p1, p2, p3, (HT3.out.2.1.trans q5).mono (by omega), HT3.out.2.2.trans q6⟩
  have HPo : Hid (Calls Try.prog 91 #[.pointer (some ⟨T, 0, none⟩)] w4 fun r W' => r = .returned (.iface 3 (.int .i64 (x : Int))) ∧ (∃ v', TurnAt W' T v' l' ∧ Fr T (.slice o1 (n + 1) c1) w4 W' v') ∧ Below T w4 W') := hPop_c T _ l' x (by omega) w4 q1
  clear q1 q2 q3 q4 q5 q6 p1 p2 p3 hll HD
  go_wp2_with (go_at_call 91; fail)
  refine HPo.out.mono ?_
  rintro e w5 ⟨rfl, ⟨v5, ht5, hf5⟩, hb5⟩
  have H5 : Hid (TurnAt w5 T v5 l' ∧ Below T w4 w5 ∧ Fr T (.slice o1 (n + 1) c1) w4 w5 v5) := ⟨ht5, hb5, hf5⟩
  clear ht5 hb5 hf5 HPo
  go_wp2
  go_ret
  have h9 := HF.out.2.2.2.2.trans H5.out.2.2
  rw [← HT.out.2.2.1] at h9
  exact ⟨x, v5, l', rfl, H5.out.1, HF.out.1, HF.out.2.1, HF.out.2.2.1, HF.out.2.2.2.1.trans H5.out.2.1, h9⟩
set_option maxHeartbeats 4000000 in
set_option maxRecDepth 100000 in
theorem add_c (T : Nat) (v : Value) (l : List Nat) (x : Nat) (hl : l.length ≤ 90000) (hH : Hp l l.length) (w : World) (h : TurnAt w T v l) : Calls Try.prog 32 #[.pointer (some ⟨T, 0, none⟩), .int .i64 (x : Int)] w fun r W' => r = .returned (.tuple #[]) ∧ (∃ v' l', TurnAt W' T v' l' ∧ l'.Perm (l ++ [x]) ∧ Hp l' l'.length ∧ Fr T v w W' v') ∧ Below T w W' := by
  have HC : Hid (Calls Try.prog 40 #[.iface 69 (.pointer (some ⟨T, 0, none⟩)), .iface 3 (.int .i64 (x : Int))] w fun r W' => r = .returned (.tuple #[]) ∧ (∃ v' l', TurnAt W' T v' l' ∧ l'.Perm (l ++ [x]) ∧ Hp l' l'.length ∧ Fr T v w W' v') ∧ Below T w W') := heapPush_c T v l x hl hH w h
  clear h hl hH
  go_enter Try.func32, Try.ntmps32
  go_wp2_with (go_at_call 40; fail)
  refine HC.out.mono ?_
  rintro e w3 ⟨rfl, q1, q2⟩
  have HF : Hid ((∃ v' l', TurnAt w3 T v' l' ∧ l'.Perm (l ++ [x]) ∧ Hp l' l'.length ∧ Fr T v w w3 v') ∧ Below T w w3) := ⟨q1, q2⟩
  clear q1 q2 HC
  go_wp2
  go_end0
  exact ⟨rfl, HF.out.1, HF.out.2⟩
set_option maxHeartbeats 4000000 in
set_option maxRecDepth 100000 in
theorem take_c (T : Nat) (v : Value) (l : List Nat) (hl : l.length ≤ 90000) (h0 : l ≠ []) (hH : Hp l l.length) (w : World) (h : TurnAt w T v l) : Calls Try.prog 34 #[.pointer (some ⟨T, 0, none⟩)] w fun r W' => ∃ x v' l', r = .returned (.int .i64 ((x : Nat) : Int)) ∧ TurnAt W' T v' l' ∧ (x :: l').Perm l ∧ Hp l' l'.length ∧ (∀ y ∈ l', x ≤ y) ∧ Below T w W' ∧ Fr T v w W' v' := by
  have hta := assertInt
  have HC : Hid (Calls Try.prog 41 #[.iface 69 (.pointer (some ⟨T, 0, none⟩))] w fun r W' => ∃ x v' l', r = .returned (.iface 3 (.int .i64 ((x : Nat) : Int))) ∧ TurnAt W' T v' l' ∧ (x :: l').Perm l ∧ Hp l' l'.length ∧ (∀ y ∈ l', x ≤ y) ∧ Below T w W' ∧ Fr T v w W' v') := heapPop_c T v l hl h0 hH w h
  clear h hl hH h0
  go_enter Try.func34, Try.ntmps34
  go_wp2_with (go_at_call 41; fail)
  refine HC.out.mono ?_
  rintro e w3 ⟨x, v3, l3, rfl, q1, q2, q3, q4, q5, q6⟩
  have HF : Hid (TurnAt w3 T v3 l3 ∧ (x :: l3).Perm l ∧ Hp l3 l3.length ∧ (∀ y ∈ l3, x ≤ y) ∧ Below T w w3 ∧ Fr T v w w3 v3) := ⟨q1, q2, q3, q4, q5, q6⟩
  clear q1 q2 q3 q4 q5 q6 HC
  go_wp2
  go_ret
  exact ⟨x, v3, l3, rfl, HF.out⟩
end Go.Proofs.Ytkkpkcigflikkaa
