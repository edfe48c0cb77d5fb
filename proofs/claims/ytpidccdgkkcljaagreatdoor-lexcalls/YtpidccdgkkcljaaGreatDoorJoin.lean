/-
  Tokens told as a text, by a contract.
-/
import Derived.Test.YtpidccdgkkcljaaGreatDoorBackM2
import Derived.Test.YtpidccdgkkcljaaGreatDoorShelf4
import Derived.Test.YtpidccdgkkcljaaGreatDoorLives
import Derived.Deep.OwnRows
namespace Go.Proofs.YtpidccdgkkcljaaGreatDoor
open Go.RowKit Go.Shelf Go.Maps
set_option linter.unusedVariables false

theorem dec_len : ∀ (k n : Nat), n < 10 ^ (k + 1) → (Lib.decDigits n).length ≤ k + 1
  | 0, n, h => by rw [Lib.decDigits, dif_pos (by omega)]; simp
  | k + 1, n, h => by
    rw [Lib.decDigits]
    split
    · simp
    · have := dec_len k (n / 10) (by rw [Nat.pow_succ] at h; omega)
      simp only [List.length_append, List.length_singleton]
      omega
theorem flat_len (q : UInt8) (bh : List UInt8) : ∀ l : List UInt8, (l.flatMap (chB q bh)).length ≤ l.length * (4 + bh.length)
  | [] => Nat.zero_le _
  | c :: l => by
    have h1 := chB_len q bh c
    have h2 := flat_len q bh l
    rw [List.flatMap_cons, List.length_append, List.length_cons, Nat.add_mul]
    omega
theorem tx0_len (t : M.T0) (hn : t.num ≤ 9223372036854775807) : (tx0 t).length ≤ 6 * t.text.length + 30 := by
  unfold tx0 txM
  split
  · rw [show max (t.num : Int) 0 = (t.num : Int) by omega, Lib.itoa_nonneg]
    have := dec_len 19 t.num (by omega)
    omega
  · split
    · unfold quM
      have := flat_len 39 [] [UInt8.ofNat (min (max (t.num : Int) 0) 255).toNat]
      simp only [List.length_cons, List.length_append, List.length_nil] at this ⊢
      omega
    · split
      · unfold quM
        have := flat_len 34 [92, 38] t.text
        simp only [List.length_cons, List.length_append, List.length_nil] at this ⊢
        omega
      · split
        · omega
        · simp
theorem text0_c (t : M.Tk) (hn : t.t.num ≤ 9223372036854775807) (hx : t.t.text.length ≤ 70000) (w : World) (hG : GOK w) :
    Calls Tryz.prog 16 #[.agg #[.int .i64 (t.t.kind : Int), .string (bs t.t.text), .int .i64 (t.t.num : Int), .int .i64 (t.pos : Int), .int .i64 (t.line : Int), .int .i64 (t.col : Int), .bool t.first]] w fun e W' => e = .returned (.string (bs (tx0 t.t))) ∧ Below w.heap.size w W' := by
  obtain ⟨⟨k, tx, num⟩, pos, line, col, first⟩ := t
  simp only at hn hx ⊢
  unfold tx0
  simp only
  by_cases h5 : k = 5
  · subst h5; exact textInt_c tx num (by omega) pos line col first w hG
  · by_cases h6 : k = 6
    · subst h6; exact textChar_c tx num pos line col first w hG
    · by_cases h7 : k = 7
      · subst h7; exact textStr_c tx hx num pos line col first w hG
      · by_cases hp : plainT k
        · rw [txM_plain k hp]
          exact text_plain k hp (bs tx) num pos line col first w
        · exact textNone_c k (by unfold plainT at hp; omega) tx num pos line col first w
theorem scan_bounds : ∀ (f a : Nat) (p : Nat × Nat) (last : Nat) (l : List UInt8) (ts : List M.Tk), M.scan f a p last l = .inr ts → ∀ t ∈ ts, t.t.num ≤ 9223372036854775807 ∧ t.t.text.length ≤ l.length
  | 0, a, p, last, l, ts, h, t, ht => by simp [M.scan] at h
  | f + 1, a, p, last, l, ts, h, t, ht => by
    unfold M.scan at h
    split at h
    · simp at h; subst h; simp at ht
    · split at h
      · cases h
      · split at h
        · cases h
        · rename_i ts' hs
          simp only [Sum.inr.injEq] at h
          subst h
          rcases List.mem_cons.1 ht with rfl | ht
          · rw [res_eq]
            refine ⟨?_, ?_⟩
            · show (M.mkTok _ _).num ≤ _
              unfold M.mkTok
              split
              · have := M.number_val ((l.drop (M.idleAll l)).take (M.lex1 (l.drop (M.idleAll l))).2); simp only; omega
              · split
                · have := M.character_val 39 (((l.drop (M.idleAll l)).take (M.lex1 (l.drop (M.idleAll l))).2).drop 1); simp only; omega
                · split <;> simp
            · show (M.mkTok _ _).text.length ≤ _
              refine Nat.le_trans (mkTok_text _ _) ?_
              rw [List.length_take, List.length_drop]; omega
          · have := scan_bounds f _ _ _ _ ts' hs t ht
            refine ⟨this.1, Nat.le_trans this.2 ?_⟩
            rw [List.length_drop]; omega

theorem inter_tl : ∀ (u : List UInt8) (us : List (List UInt8)), ([32] : List UInt8).intercalate (u :: us) = u ++ tl us
  | u, [] => by simp [List.intercalate, tl]
  | u, v :: us => by
    have := inter_tl v us
    rw [List.intercalate_cons_cons, this]
    simp [tl]
theorem inter_join (us : List (List UInt8)) : Lib.join us [32] = joinM us := by
  unfold Lib.join
  cases us with
  | nil => rfl
  | cons u us => exact inter_tl u us
theorem tl_bound (n : Nat) : ∀ us : List (List UInt8), (∀ u ∈ us, u.length ≤ n) → (tl us).length ≤ us.length * (n + 1)
  | [], _ => Nat.zero_le _
  | u :: us, h => by
    have h1 := h u (by simp)
    have h2 := tl_bound n us (fun v hv => h v (by simp [hv]))
    show (u ++ tl us).length + 1 ≤ _
    rw [List.length_append, List.length_cons, Nat.add_mul]
    omega
theorem join_bound (n : Nat) (us : List (List UInt8)) (h : ∀ u ∈ us, u.length ≤ n) : (joinM us).length ≤ us.length * (n + 1) := by
  cases us with
  | nil => exact Nat.zero_le _
  | cons u us =>
    have h1 := h u (by simp)
    have h2 := tl_bound n us (fun v hv => h v (by simp [hv]))
    show (u ++ tl us).length ≤ _
    rw [List.length_append, List.length_cons, Nat.add_mul]
    omega

set_option maxHeartbeats 4000000 in
set_option maxRecDepth 100000 in
theorem join_c (ts : List M.Tk) (b : Nat) (v : Value) (hn : ts.length ≤ 5000) (hb : ∀ t ∈ ts, t.t.num ≤ 9223372036854775807 ∧ t.t.text.length ≤ 5000) (w : World) (hG : GOK w) (h : w.ownsRow b 30 7 v ts.length (tksC ts)) :
    Calls Tryz.prog 19 #[v] w fun r W' => r = .returned (.string (bs (joinM (ts.map fun t => tx0 t.t)))) ∧ Below w.heap.size w W' := by
  have HT : Hid (∀ (t : M.Tk), t ∈ ts → ∀ W : World, Below w.heap.size w W → Calls Tryz.prog 16 #[.agg #[.int .i64 (t.t.kind : Int), .string (bs t.t.text), .int .i64 (t.t.num : Int), .int .i64 (t.pos : Int), .int .i64 (t.line : Int), .int .i64 (t.col : Int), .bool t.first]] W fun e W' => e = .returned (.string (bs (tx0 t.t))) ∧ Below W.heap.size W W') := fun t ht W hW => text0_c t (hb t ht).1 (by have := (hb t ht).2; omega) W (hG.below hW)
  obtain ⟨m, hm⟩ : ∃ m, ts.length = m := ⟨_, rfl⟩
  have HM : Hid (ts.length = m) := hm
  have HN : Hid (m ≤ 5000) := by rw [← hm]; exact hn
  have HB : Hid (∀ t ∈ ts, t.t.num ≤ 9223372036854775807 ∧ t.t.text.length ≤ 5000) := hb
  have hmi : (m : Int) ≤ 5000 := by omega
  have hv : ∃ (o : Option Addr) (c : Nat), v = .slice o m c := by
    rw [hm] at h
    rcases h with ⟨_, ⟨rfl, h0⟩ | ⟨g, cap, cur, h, _⟩⟩
    · exact ⟨none, 0, by rw [h0]⟩
    · exact ⟨_, cap, h⟩
  obtain ⟨o, cap, rfl⟩ := hv
  have HR : Hid (w.ownsRow b 30 7 (.slice o m cap) ts.length (tksC ts)) := h
  have hmk : ∀ W : World, (Instr.makeSlice 32 (.int .i64 (m : Int)) (.int .i64 (m : Int))).run Tryz.prog W = .ok (.slice (some ⟨W.heap.size, 0, none⟩) m m) (W.alloc (.cells (madeCells #[.string ⟨#[]⟩] m) 9)) := fun W => run_make_row' 32 9 (.string ⟨#[]⟩) 16 Tryz.underlying32 Tryz.info9 rfl .i64 .i64 m (by omega) (by omega) W
  have HJ : Hid (∀ (W : World) (A : Array Value), Blk W w.heap.size A 9 → (∀ j (h : j < ts.length), A[j]? = some (.string (bs (tx0 ts[j].t)))) → Calls Tryz.prog 45 #[.slice (some ⟨w.heap.size, 0, none⟩) m m, .string (ByteArray.mk #[32])] W fun r W' => r = .returned (.string (bs (joinM (ts.map fun t => tx0 t.t)))) ∧ Below W.heap.size W W') := by
    intro W A hA hc
    have hxl : (ts.map fun t => bs (tx0 t.t)).length = m := by rw [List.length_map]; exact HM.out
    have hmap : (ts.map fun t => bs (tx0 t.t)).map (·.data.toList) = ts.map fun t => tx0 t.t := by rw [List.map_map]; rfl
    have hbd : (joinM (ts.map fun t => tx0 t.t)).length ≤ 5000 * 30031 := by
      have h1 := join_bound 30030 (ts.map fun t => tx0 t.t) (by
        intro u hu
        obtain ⟨t, ht, rfl⟩ := List.mem_map.1 hu
        have h2 := HB.out t ht
        have h3 := tx0_len t.t h2.1
        omega)
      rw [List.length_map, HM.out] at h1
      have h2 := HN.out
      exact Nat.le_trans h1 (Nat.mul_le_mul_right _ h2)
    have := Tryz.strings_Join w.heap.size 0 m (ts.map fun t => bs (tx0 t.t)) (ByteArray.mk #[32]) W (by
      intro j x hx
      rw [Nat.zero_add]
      obtain ⟨hj, rfl⟩ := List.getElem?_eq_some_iff.1 hx
      have hj' : j < ts.length := by simpa using hj
      have := hA.cell j _ (hc j hj')
      simpa using this) hA.lt (by rw [hxl]; have := HN.out; omega) (by rw [hxl]; exact Nat.le_refl _) (by rw [hmap]; show (Lib.join _ [32]).length ≤ _; rw [inter_join]; omega)
    rw [hxl, hmap] at this
    have e : Lib.join (ts.map fun t => tx0 t.t) (ByteArray.mk #[32]).data.toList = joinM (ts.map fun t => tx0 t.t) := inter_join _
    rw [e] at this
    exact this
  clear h hG hb hn hm
  go_enter Tryz.func19, Tryz.ntmps19
  go_wp2
  have hA0 : Hid (Blk (w.alloc (.cells (madeCells #[.string ⟨#[]⟩] m) 9)) w.heap.size (madeCells #[.string ⟨#[]⟩] m) 9) := Blk.new w _ _
  have hB0 : Hid (Below w.heap.size w (w.alloc (.cells (madeCells #[.string ⟨#[]⟩] m) 9))) := (Below.refl _ w).alloc (Nat.le_refl _) _
  go_loopw [11] (fun i wr => ∃ (k : Nat) (A : Array Value), k ≤ m ∧ i = .int .i64 k ∧ Hid (Blk wr w.heap.size A 9) ∧ Hid (A.size = m) ∧ Hid (∀ j (h : j < ts.length), j < k → A[j]? = some (.string (bs (tx0 ts[j].t)))) ∧ Hid (Below w.heap.size w wr)) (fun i _ => m - (intOf i).toNat)
  case atStart => exact ⟨0, _, Nat.zero_le _, rfl, hA0, size_madeCells _ _, fun j h hj => by omega, hB0⟩
  case round =>
    obtain ⟨k, A, hk, rfl, hA, hsz, hc, hB⟩ := hrel
    clear hA0 hB0
    by_cases hlt : k < m
    · have hkL : k < ts.length := by rw [HM.out]; exact hlt
      have hog : ∃ g, o = some ⟨g, 0, none⟩ := by
        have h1 := HR.out
        rw [HM.out] at h1
        rcases h1 with ⟨_, ⟨h2, h0⟩ | ⟨g, cap', cur, h2, _⟩⟩
        · omega
        · simp only [Value.slice.injEq] at h2; exact ⟨g, h2.1⟩
      obtain ⟨g, rfl⟩ := hog
      have hg : g < w.heap.size := (HR.out.lt g rfl).2
      have hki : (k : Int) < (m : Int) := by omega
      have hcell := fun q hq u hu => (hB.out.cell (p := ⟨g, k * 7 + q, none⟩) hg).trans (tks_cell HM.out HR.out k hkL q hq u hu)
      have c0 := hcell 0 (by omega) _ rfl
      rw [Nat.add_zero] at c0
      have c1 := hcell 1 (by omega) _ rfl
      have c2 := hcell 2 (by omega) _ rfl
      have c3 := hcell 3 (by omega) _ rfl
      have c4 := hcell 4 (by omega) _ rfl
      have c5 := hcell 5 (by omega) _ rfl
      have c6 := hcell 6 (by omega) _ rfl
      have hTk : Hid (∀ W : World, Below w.heap.size w W → Calls Tryz.prog 16 #[.agg #[.int .i64 (ts[k].t.kind : Int), .string (bs ts[k].t.text), .int .i64 (ts[k].t.num : Int), .int .i64 (ts[k].pos : Int), .int .i64 (ts[k].line : Int), .int .i64 (ts[k].col : Int), .bool ts[k].first]] W fun e W' => e = .returned (.string (bs (tx0 ts[k].t))) ∧ Below W.heap.size W W') := fun W hW => HT.out ts[k] (List.getElem_mem hkL) W hW
      have hcn : Hid (∀ (B : Array Value), (∀ j, j ≠ k → B[j]? = A[j]?) → B[k]? = some (.string (bs (tx0 ts[k].t))) → ∀ j (h : j < ts.length), j < k + 1 → B[j]? = some (.string (bs (tx0 ts[j].t)))) := by
        intro B h1 h2 j hj hjk
        by_cases hjk' : j = k
        · subst hjk'; exact h2
        · rw [h1 j hjk']; exact hc.out j hj (by omega)
      generalize ts[k] = t at c0 c1 c2 c3 c4 c5 c6 hTk hcn
      obtain ⟨⟨tk, tt, tn⟩, pos, line, col, first⟩ := t
      simp only at c0 c1 c2 c3 c4 c5 c6 hTk hcn
      generalize tx0 ⟨tk, tt, tn⟩ = tx at hTk hcn
      have hgr : g < wr.heap.size := by have := hB.out.size; omega
      have hGr : w.heap.size < wr.heap.size := hA.out.lt
      clear hcell hkL hc
      go_wp2_with (go_at_call 16; fail)
      refine (hTk.out _ (hB.out.alloc hB.out.size _)).mono ?_
      rintro r w2 ⟨rfl, hb2⟩
      have hA2 : Hid (Blk w2 w.heap.size A 9) := (hA.out.alloc _).below hb2
      have hB2 : Hid (Below w.heap.size w w2) := (hB.out.alloc hB.out.size _).trans (hb2.mono (by have := hB.out.size; simp; omega))
      have hk2 : ∃ u, A[k]? = some u := ⟨_, Array.getElem?_eq_getElem (by have := hsz.out; omega)⟩
      obtain ⟨u, hu⟩ := hk2
      have d0 := hA2.out.cell k u hu
      have d1 := hA2.out.frozen k
      clear hb2 hA hB c0 c1 c2 c3 c4 c5 c6 hu
      go_wp2
      go_roundw
      case rel => exact ⟨k + 1, A.setIfInBounds k (.string (bs tx)), by omega, by go_num, hA2.out.set k _, by show _ = _; rw [Array.size_setIfInBounds]; exact hsz.out, hcn.out _ (fun j hj => by rw [Array.getElem?_setIfInBounds, if_neg (fun e => hj e.symm)]) (by rw [Array.getElem?_setIfInBounds, if_pos rfl, if_pos (by have := hsz.out; omega)]), hB2.out.setCell (p := ⟨w.heap.size, k, none⟩) (Nat.le_refl _) _⟩
      case measure => simp [intOf]; omega
    · obtain rfl : k = m := by omega
      have hJ : Hid (Calls Tryz.prog 45 #[.slice (some ⟨w.heap.size, 0, none⟩) k k, .string (ByteArray.mk #[32])] wr fun r W' => r = .returned (.string (bs (joinM (ts.map fun t => tx0 t.t)))) ∧ Below wr.heap.size wr W') := HJ.out wr A hA.out (fun j hj => hc.out j hj (by rw [← HM.out]; exact hj))
      go_wp2_with (go_at_call 45; fail)
      refine hJ.out.mono ?_
      rintro r w2 ⟨rfl, hb2⟩
      have hB2 : Hid (Below w.heap.size w w2) := hB.out.trans (hb2.mono hB.out.size)
      clear hb2
      go_wp2
      go_ret
      exact ⟨rfl, hB2.out⟩

end Go.Proofs.YtpidccdgkkcljaaGreatDoor
