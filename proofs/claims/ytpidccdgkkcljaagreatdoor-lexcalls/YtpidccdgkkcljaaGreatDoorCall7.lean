/-
  The document's telling of tokens as a text, by a contract.
-/
import Derived.Test.YtpidccdgkkcljaaGreatDoorCall6
import Derived.Lib.AppendStr
namespace Go.Proofs.YtpidccdgkkcljaaGreatDoor
open Go.RowKit Go.Shelf Go.Maps
set_option linter.unusedVariables false

theorem tl_snoc (u : List UInt8) : ∀ us : List (List UInt8), tl (us ++ [u]) = tl us ++ (32 :: u)
  | [] => by simp [tl]
  | v :: us => by simp [tl, tl_snoc u us]
theorem joinM_snoc (u : List UInt8) (us : List (List UInt8)) (h : us ≠ []) : joinM (us ++ [u]) = joinM us ++ [32] ++ u := by
  cases us with
  | nil => exact absurd rfl h
  | cons v us => simp [joinM, tl_snoc]
theorem take_snoc' {α : Type} (ts : List α) (k : Nat) (h : k < ts.length) : ts.take (k + 1) = ts.take k ++ [ts[k]] := List.take_succ_eq_append_getElem h
theorem cells_app2 (a b : List UInt8) : cellsL (a ++ b) = cellsL a ++ cellsL b := by simp [cellsL]
theorem cells_str (a b : List UInt8) : cellsL a ++ Lib.strCells (bs b) = cellsL (a ++ b) := by simp [cellsL, Lib.strCells, bs]
theorem info5b : (Tryz.prog.info? 5).map (fun i => (i.zero, i.size, i.bytes)) = some (some (.int .u8 0), 1, 1) := by kernel_rfl

set_option maxHeartbeats 4000000 in
set_option maxRecDepth 100000 in
theorem rJoinG_c (ts : List Tg) (o : Option Addr) (cap : Nat) (hn : ts.length ≤ 5000) (hb : ∀ t ∈ ts, t.num ≤ 9223372036854775807 ∧ t.text.length ≤ 5000) (w : World) (h : TgIn w o ts) :
    Calls Tryz.prog 20 #[.slice o ts.length cap] w fun r W' => r = .returned (.string (bs (joinM (ts.map txG)))) ∧ Below w.heap.size w W' := by
  obtain ⟨i0, hi, hzz⟩ := Option.map_eq_some_iff.1 info5b
  simp only [Prod.mk.injEq] at hzz
  obtain ⟨hz0, hz1, hz2⟩ := hzz
  have HI0 : Hid (Tryz.prog.info? 5 = some i0 ∧ i0.zero = some (.int .u8 0) ∧ i0.size = 1 ∧ i0.bytes = 1) := ⟨hi, hz0, hz1, hz2⟩
  have HT : Hid (∀ (t : Tg), t ∈ ts → ∀ W : World, Calls Tryz.prog 17 #[.agg #[.int .i64 t.kind, .string (bs t.text), .int .i64 t.num, .int .i64 t.pos, .int .i64 t.line, .int .i64 t.col, .bool t.first]] W fun e W' => e = .returned (.string (bs (txG t))) ∧ Below W.heap.size W W') := fun t ht W => rTextG_c t (hb t ht).1 (by have := (hb t ht).2; omega) W
  obtain ⟨m, hm⟩ : ∃ m, ts.length = m := ⟨_, rfl⟩
  have HM : Hid (ts.length = m) := hm
  have HN : Hid (m ≤ 5000) := by rw [← hm]; exact hn
  have HBD : Hid (∀ t ∈ ts, (txG t).length ≤ 30030) := by
    intro t ht
    have h2 := hb t ht
    have h3 := txG_len t h2.1
    omega
  have hmi : (m : Int) ≤ 5000 := by omega
  have HR : Hid (TgIn w o ts) := h
  rw [hm]
  clear h hb hn hm hi hz0 hz1 hz2
  go_enter Tryz.func20, Tryz.ntmps20
  go_wp2
  go_loopw [3, 4] (fun x i wr => ∃ (k : Nat) (v : Value), k ≤ m ∧ i = .int .i64 k ∧ v = x ∧ Hid (wr.ownsRow w.heap.size 5 1 v (joinM ((ts.take k).map txG)).length (cellsL (joinM ((ts.take k).map txG)))) ∧ Hid ((joinM ((ts.take k).map txG)).length ≤ k * 30031) ∧ Hid (Below w.heap.size w wr)) (fun _ i _ => m - (intOf i).toNat)
  case atStart => exact ⟨0, _, Nat.zero_le _, rfl, rfl, World.ownsRow_nil _ _ _ _, Nat.zero_le _, Below.refl _ _⟩
  case round =>
    obtain ⟨k, v, hk, rfl, rfl, hO, hLen, hB⟩ := hrel
    by_cases hlt : k < m
    · have hkL : k < ts.length := by rw [HM.out]; exact hlt
      have hki : (k : Int) < (m : Int) := by omega
      obtain ⟨g, off, rfl, hg, hTA⟩ := HR.out.at k hkL
      have hcell := fun q u hu => (hB.out.cell (p := ⟨g, off + k * 7 + q, none⟩) hg).trans (hTA k hkL q u hu)
      have hgr : g < wr.heap.size := by have := hB.out.size; omega
      have HC : Hid (∀ q u, (tgC ts[k])[q]? = some u → wr.cell? ⟨g, off + k * 7 + q, none⟩ = some u) := hcell
      have HTk : Hid (∀ W : World, Calls Tryz.prog 17 #[.agg #[.int .i64 ts[k].kind, .string (bs ts[k].text), .int .i64 ts[k].num, .int .i64 ts[k].pos, .int .i64 ts[k].line, .int .i64 ts[k].col, .bool ts[k].first]] W fun e W' => e = .returned (.string (bs (txG ts[k]))) ∧ Below W.heap.size W W') := fun W => HT.out ts[k] (List.getElem_mem hkL) W
      have HBk : Hid ((txG ts[k]).length ≤ 30030) := HBD.out _ (List.getElem_mem hkL)
      have HE : Hid ((ts.take (k + 1)).map txG = (ts.take k).map txG ++ [txG ts[k]]) := by show _ = _; rw [take_snoc' ts k hkL, List.map_append]; rfl
      have HK5 : Hid (k ≤ 5000) := by have := HN.out; show k ≤ 5000; omega
      have HBs : Hid (w.heap.size ≤ wr.heap.size) := hB.out.size
      rcases Nat.eq_zero_or_pos k with h0 | h0
      · subst h0
        have HE1 : Hid (joinM ((ts.take (0 + 1)).map txG) = txG ts[0]) := by show _ = _; rw [HE.out]; simp [joinM, tl]
        have c0 := HC.out 0 _ rfl
        rw [Nat.add_zero] at c0
        have c1 := HC.out 1 _ rfl
        have c2 := HC.out 2 _ rfl
        have c3 := HC.out 3 _ rfl
        have c4 := HC.out 4 _ rfl
        have c5 := HC.out 5 _ rfl
        have c6 := HC.out 6 _ rfl
        simp only [Nat.zero_mul, Nat.add_zero] at c0 c1 c2 c3 c4 c5 c6
        generalize ts[0] = t at c0 c1 c2 c3 c4 c5 c6 HTk HE1 HBk
        obtain ⟨tk, tt, tn, pos, line, col, first⟩ := t
        simp only at c0 c1 c2 c3 c4 c5 c6 HTk HE1 HBk
        generalize txG ⟨tk, tt, tn, pos, line, col, first⟩ = tx at HTk HE1 HBk
        have hO1 : Hid (wr.ownsRow w.heap.size 5 1 v 0 []) := hO.out
        clear hcell hkL hTA HC HE hO hLen
        go_wp2_with (go_at_call 17; fail)
        refine (HTk.out _).mono ?_
        rintro r w2 ⟨rfl, hb2⟩
        have hO2 : Hid (w2.ownsRow w.heap.size 5 1 v 0 []) := owns_below hO1.out hb2
        have hB2 : Hid (Below w.heap.size w w2) := hB.out.trans (hb2.mono hB.out.size)
        clear hb2 hB c0 c1 c2 c3 c4 c5 c6 hO1
        go_wp2_with (at_builtin; refine Lib.wpList_append_own_string _ rfl (.tmp 16) (.tmp 21) 61 9 rfl w.heap.size 5 i0 Tryz.underlying61 Tryz.underlying9 HI0.out.1 HI0.out.2.1 HI0.out.2.2.1 HI0.out.2.2.2 v 0 [] rfl hO2.out (bs tx) rfl (by have := HBk.out; rw [bs_size]; unfold maxLen; omega) (by have := HBk.out; rw [bs_size]; omega) hB2.out.size ?_; intro v4 w4 hown4 hgrow4 _)
        go_roundw
        case rel =>
          refine ⟨0 + 1, _, by omega, by go_num, rfl, ?_, ?_, ?_⟩
          · rw [HE1.out]
            show World.ownsRow _ _ _ _ _ _ _
            have h1 := hown4
            rw [bs_size, Nat.zero_add] at h1
            have e := cells_str [] tx
            simp only [cellsL, List.map_nil, List.nil_append] at e h1
            rw [List.nil_append] at *
            rw [e] at h1
            exact h1
          · rw [HE1.out]; have := HBk.out; show _ ≤ _; omega
          · exact hB2.out.grown hgrow4 hB2.out.size (fun j e => (hO2.out.lt j e).1)
        case measure => simp [intOf]; omega
      · have HE1 : Hid (joinM ((ts.take (k + 1)).map txG) = joinM ((ts.take k).map txG) ++ [32] ++ txG ts[k]) := by
          show _ = _
          rw [HE.out]
          refine joinM_snoc _ _ (fun e => ?_)
          have h1 := congrArg List.length e
          rw [List.length_map, List.length_take] at h1
          simp only [List.length_nil] at h1
          omega
        have HC0 : Hid (∀ q u, (tgC ts[k])[q]? = some u → w.cell? ⟨g, off + k * 7 + q, none⟩ = some u) := fun q u hu => hTA k hkL q u hu
        generalize ts[k] = t at HTk HE1 HBk HC0
        obtain ⟨tk, tt, tn, pos, line, col, first⟩ := t
        simp only at HTk HE1 HBk HC0
        generalize txG ⟨tk, tt, tn, pos, line, col, first⟩ = tx at HTk HE1 HBk
        generalize joinM ((ts.take k).map txG) = pre at hO hLen HE1
        have hkp : (0 : Int) < k := by omega
        clear hcell hkL hTA HC HE h0
        go_wp2_with (first
          | (at_builtin; refine wpList_append_own _ rfl _ _ 61 rfl w.heap.size 5 i0 (.int .u8 0) 1 1 Tryz.underlying61 HI0.out.1 HI0.out.2.1 HI0.out.2.2.1 HI0.out.2.2.2 rfl (by decide) _ _ _ rfl (hO.out.alloc _) ⟨wr.heap.size, 0, none⟩ 1 1 [.int .u8 32] rfl rfl (cell_one_new _ _ _) (by simp [Value.oneCell']) (by have := hLen.out; have := HK5.out; unfold maxLen; omega) (by have := hLen.out; have := HK5.out; omega) (by have := HBs.out; simp; omega) ?_; intro v3 w3 hown3 hgrow3 _; have HO3 : Hid (w3.ownsRow w.heap.size 5 1 v3 (pre.length + 1) (cellsL pre ++ [.int .u8 32])) := hown3; have HB3 : Hid (Below w.heap.size w w3) := (hB.out.alloc hB.out.size _).grown hgrow3 (by have := HBs.out; simp; omega) (fun j e => (hO.out.lt j e).1); have hg3 : g < w3.heap.size := Nat.lt_of_lt_of_le hg HB3.out.size; have c0 := (HB3.out.cell (p := ⟨g, off + k * 7, none⟩) hg).trans (HC0.out 0 _ rfl); have c1 := (HB3.out.cell (p := ⟨g, off + k * 7 + 1, none⟩) hg).trans (HC0.out 1 _ rfl); have c2 := (HB3.out.cell (p := ⟨g, off + k * 7 + 2, none⟩) hg).trans (HC0.out 2 _ rfl); have c3 := (HB3.out.cell (p := ⟨g, off + k * 7 + 3, none⟩) hg).trans (HC0.out 3 _ rfl); have c4 := (HB3.out.cell (p := ⟨g, off + k * 7 + 4, none⟩) hg).trans (HC0.out 4 _ rfl); have c5 := (HB3.out.cell (p := ⟨g, off + k * 7 + 5, none⟩) hg).trans (HC0.out 5 _ rfl); have c6 := (HB3.out.cell (p := ⟨g, off + k * 7 + 6, none⟩) hg).trans (HC0.out 6 _ rfl); clear hown3 hgrow3)
          | (go_at_call 17; fail))
        refine (HTk.out _).mono ?_
        rintro r w2 ⟨rfl, hb2⟩
        have hO2 : Hid (w2.ownsRow w.heap.size 5 1 v3 (pre.length + 1) (cellsL pre ++ [.int .u8 32])) := owns_below HO3.out hb2
        have hB2 : Hid (Below w.heap.size w w2) := HB3.out.trans (hb2.mono HB3.out.size)
        clear hb2 hB HB3 HO3 hO c0 c1 c2 c3 c4 c5 c6
        go_wp2_with (at_builtin; refine Lib.wpList_append_own_string _ rfl (.tmp 16) (.tmp 21) 61 9 rfl w.heap.size 5 i0 Tryz.underlying61 Tryz.underlying9 HI0.out.1 HI0.out.2.1 HI0.out.2.2.1 HI0.out.2.2.2 v3 (pre.length + 1) (cellsL pre ++ [.int .u8 32]) rfl hO2.out (bs tx) rfl (by have := HBk.out; have := hLen.out; have := HK5.out; rw [bs_size]; unfold maxLen; omega) (by have := HBk.out; have := hLen.out; have := HK5.out; rw [bs_size]; omega) hB2.out.size ?_; intro v4 w4 hown4 hgrow4 _)
        go_roundw
        case rel =>
          refine ⟨k + 1, _, by omega, by go_num, rfl, ?_, ?_, ?_⟩
          · rw [HE1.out]
            show World.ownsRow _ _ _ _ _ _ _
            have h1 := hown4
            rw [bs_size] at h1
            have e : cellsL pre ++ [Value.int .u8 32] ++ Lib.strCells (bs tx) = cellsL (pre ++ [32] ++ tx) := by
              rw [← cells_str, cells_app2]; rfl
            rw [e] at h1
            have e2 : pre.length + 1 + tx.length = (pre ++ [32] ++ tx).length := by simp only [List.length_append, List.length_singleton]
            rw [e2] at h1
            exact h1
          · rw [HE1.out]; have h1 := HBk.out; have h2 := hLen.out; show _ ≤ _; simp; omega
          · exact hB2.out.grown hgrow4 hB2.out.size (fun j e => (hO2.out.lt j e).1)
        case measure => simp [intOf]; omega
    · obtain rfl : k = m := by omega
      have hO1 : Hid (wr.ownsRow w.heap.size 5 1 v (joinM (ts.map txG)).length (cellsL (joinM (ts.map txG)))) := by
        have := hO.out
        rw [List.take_of_length_le (by rw [HM.out]; exact Nat.le_refl _)] at this
        exact this
      obtain ⟨pre, hpe⟩ : ∃ pre, joinM (ts.map txG) = pre := ⟨_, rfl⟩
      rw [hpe] at hO1
      have HPE : Hid (joinM (ts.map txG) = pre) := hpe
      clear hpe
      have hcv := own_convert pre hO1.out
      clear hO hLen
      go_wp2
      go_ret
      exact ⟨by rw [HPE.out]; rfl, hB.out⟩

end Go.Proofs.YtpidccdgkkcljaaGreatDoor
