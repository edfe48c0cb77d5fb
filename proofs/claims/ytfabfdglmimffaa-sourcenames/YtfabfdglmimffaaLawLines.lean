/-
  The law SourceLines, walked.
-/
import Derived.Lib.AppendStr
import Derived.Laws.BytesArg
import Derived.Laws.IdiomStrings
import Derived.Test.YtfabfdglmimffaaJoin
import Derived.Test.YtfabfdglmimffaaPlain
namespace Go.Proofs.Ytfabfdglmimffaa
open Go.RowKit Go.Shelf
set_option linter.unusedVariables false

theorem Try.info5 : (Try.prog.info? 5).map (fun i => (i.zero, i.size, i.bytes)) = some (some (.int .u8 0), 1, 1) := by kernel_rfl

def cellsL (l : List UInt8) : List Value := l.map fun b => Value.int .u8 b.toNat

theorem own_convert {W : World} {base : Nat} {v : Value} (l : List UInt8) (h : W.ownsRow base 5 1 v l.length (cellsL l)) :
    (convert 37 9 v).run Try.prog W = .ok (.string (M.mk l)) W := by
  rcases h with ⟨hl, ⟨rfl, h0⟩ | ⟨g, cap, cur, rfl, hb, hg, h1, h2, h3, h4⟩⟩
  · obtain rfl : l = [] := List.length_eq_zero_iff.1 h0
    exact run_convert_bytes_nil W 37 5 Try.underlying37 Try.underlying5 0 0 9 Try.underlying9
  · refine run_convert_bytes_back W 37 9 5 ⟨g, 0, none⟩ cap l Try.underlying37 Try.underlying5 Try.underlying9 ?_
    intro j hj
    have hown : W.ownsRow base 5 1 (.slice (some ⟨g, 0, none⟩) l.length cap) l.length (cellsL l) := ⟨hl, .inr ⟨g, cap, cur, rfl, hb, hg, h1, h2, h3, h4⟩⟩
    have := hown.cells (g := g) rfl j (.int .u8 (l[j].toNat : Int)) (by simp [cellsL, hj])
    exact this

theorem lines_c2 (s : ByteArray) (hs : s.size ≤ 8796093022000) (w : World) :
    Calls Try.prog 17 #[.string s] w fun e W' => ∃ (m g cap : Nat), e = .returned (.slice (some ⟨g, 0, none⟩) (m + 1) cap) ∧ Hid ((M.LN s 0).length = m + 1) ∧ g < W'.heap.size ∧
      Hid (∀ j (h : j < (M.LN s 0).length), W'.cell? ⟨g, j, none⟩ = some (.string (M.LN s 0)[j].2)) ∧ Below w.heap.size w W' := by
  refine (lines_c s hs w).mono ?_
  rintro e W' ⟨v, rfl, hrow, hb⟩
  obtain ⟨m, hm⟩ : ∃ m, (M.LN s 0).length = m + 1 := ⟨(M.LN s 0).length - 1, by have := (M.LN_length s 0).1; omega⟩
  have hrow' := hrow
  rw [hm] at hrow'
  obtain ⟨g, cap, rfl⟩ := ownsRow_succ hrow'
  refine ⟨m, g, cap, rfl, hm, (hrow.lt g rfl).2, ?_, hb⟩
  intro j h
  have := hrow'.cellAt j (by omega)
  rw [this]
  simp [strV, h]

set_option maxRecDepth 100000 in
set_option maxHeartbeats 4000000 in
theorem lawLines_small (s : ByteArray) (hs : s.size ≤ 4000) (w : World) :
    Calls Try.prog 6 #[.string s] w fun e W' => e = .returned (.bool true) ∧ Below w.heap.size w W' := by
  have hsi : (s.size : Int) ≤ 4000 := by omega
  obtain ⟨i0, hi, hz0, hz1, hz2⟩ := info_parts Try.info5
  go_enter Try.func6, Try.ntmps6
  go_wp2_with (first | (go_at_call 10; refine (lives_c _).mono ?_; rintro e w0 ⟨rfl, hb0⟩) | (go_at_call 17; refine (lines_c2 s (by omega) _).mono ?_; rintro e w1 ⟨m, g, cap, rfl, hm, hg, hcell, hb1⟩))
  have hbw : Below w.heap.size w w1 := hb0.trans (hb1.mono hb0.size)
  have hmle : m ≤ 4000 := by have := (M.LN_length s 0).2; have := hm.out; omega
  go_loopw [4, 5] (fun b i wr => ∃ k : Nat, k ≤ m + 1 ∧ i = .int .i64 k ∧ wr.ownsRow w1.heap.size 5 1 b (M.J s k).length (cellsL (M.J s k)) ∧ Below w1.heap.size w1 wr)
    (fun _ i _ => m + 1 - (intOf i).toNat)
  case atStart => exact ⟨0, Nat.zero_le _, rfl, World.ownsRow_nil _ _ _ _, Below.refl _ _⟩
  case round =>
    obtain ⟨k, hk, rfl, hown, hnx⟩ := hrel
    by_cases hlt : k < m + 1
    · have hkL : k < (M.LN s 0).length := by have := hm.out; omega
      have hstep : Hid _ := M.J_step s k hkL
      have hJk1 := M.J_le (m - k) s (k + 1) (by have := hm.out; omega)
      have hc1 : w1.cell? ⟨g, k, none⟩ = some (.string (M.LN s 0)[k].2) := hcell.out k hkL
      have hno : Hid _ := M.line_no10 s k hkL
      have hTs : (M.LN s 0)[k].2.size ≤ 4000 := Nat.le_trans (M.LN_size s 0 _ (List.getElem_mem hkL)) hs
      have hTJ : (if k = 0 then [] else M.J s k ++ [10]).length + (M.LN s 0)[k].2.size ≤ 4000 := by
        rw [hstep.out, List.length_append, ← Lib.size_eq] at hJk1
        omega
      generalize (M.LN s 0)[k].2 = T at *
      have hcx : wr.cell? ⟨g, k, none⟩ = some (.string T) := (hnx.cell (p := ⟨g, k, none⟩) hg).trans hc1
      clear hc1 hcell hm hJk1
      by_cases h0 : k = 0
      · subst h0
        have hJ0 : (M.J s 0) = [] := M.J_zero s
        rw [hJ0] at hown
        clear hJ0
        rw [if_pos rfl] at hTJ
        simp only [List.length_nil, Nat.zero_add] at hTJ hown
        go_wp2
        go_loop [6] (fun j => ∃ q : Nat, q ≤ T.size ∧ j = .int .i64 q) (fun j => T.size - (intOf j).toNat)
        case atStart => exact ⟨0, Nat.zero_le _, rfl⟩
        case round =>
          obtain ⟨q, hq, rfl⟩ := hrel
          by_cases hql : q < T.size
          · have hne : (((T[q].toNat : Nat) : Int) == 10) = false := by
              rw [beq_eq_false_iff_ne]
              intro e
              exact hno.out q hql (UInt8.toNat_inj.1 (by simp; omega))
            go_wp2
            go_round
            case rel => exact ⟨q + 1, by omega, by go_num⟩
            case measure => first | (simp [intOf]; done) | (simp [intOf]; omega)
          · go_wp2_with (at_builtin; refine Lib.wpList_append_own_string _ rfl _ _ 37 9 rfl w1.heap.size 5 i0 Try.underlying37 Try.underlying9 hi hz0 hz1 hz2 _ _ _ rfl hown T rfl (by unfold maxLen; omega) (by omega) (by have := hnx.size; omega) ?_; intro b' w2 hown2 hgrow2 _)
            go_roundw
            case rel =>
              refine ⟨1, by omega, by go_num, ?_, ?_⟩
              · rw [hstep.out]
                simpa [cellsL, Lib.strCells] using hown2
              · exact hnx.grown hgrow2 (by have := hnx.size; omega) (fun j e => (hown.lt j e).1)
            case measure => first | (simp [intOf]; done) | (simp [intOf]; omega)
      · have hpos : 0 < k := by omega
        rw [if_neg h0] at hTJ
        simp only [List.length_append, List.length_cons, List.length_nil, Nat.zero_add] at hTJ
        generalize hJl : M.J s k = jk at *
        have HJl : Hid (M.J s k = jk) := hJl
        clear hJl
        go_wp2_with (at_builtin; refine wpList_append_own _ rfl _ _ 37 rfl w1.heap.size 5 i0 (.int .u8 0) 1 1 Try.underlying37 hi hz0 hz1 hz2 rfl (by decide) _ _ _ rfl (hown.alloc _) ⟨wr.heap.size, 0, none⟩ 1 1 [.int .u8 10] rfl rfl (cell_one_new _ _ _) (by simp [Value.oneCell']) (by unfold maxLen; omega) (by omega) (by have := hnx.size; simp; omega) ?_; intro b1 w3 hown3 hgrow3 _)
        have hnx3 : Below w1.heap.size w1 w3 := (hnx.alloc hnx.size _).grown hgrow3 (by have := hnx.size; simp; omega) (fun j e => (hown.lt j e).1)
        have hcx3 : w3.cell? ⟨g, k, none⟩ = some (.string T) := (hnx3.cell (p := ⟨g, k, none⟩) hg).trans (((hnx.cell (p := ⟨g, k, none⟩) hg)).symm.trans hcx)
        go_wp2
        go_loop [6] (fun j => ∃ q : Nat, q ≤ T.size ∧ j = .int .i64 q) (fun j => T.size - (intOf j).toNat)
        case atStart => exact ⟨0, Nat.zero_le _, rfl⟩
        case round =>
          obtain ⟨q, hq, rfl⟩ := hrel
          by_cases hql : q < T.size
          · have hne : (((T[q].toNat : Nat) : Int) == 10) = false := by
              rw [beq_eq_false_iff_ne]
              intro e
              exact hno.out q hql (UInt8.toNat_inj.1 (by simp; omega))
            go_wp2
            go_round
            case rel => exact ⟨q + 1, by omega, by go_num⟩
            case measure => first | (simp [intOf]; done) | (simp [intOf]; omega)
          · go_wp2_with (at_builtin; refine Lib.wpList_append_own_string _ rfl _ _ 37 9 rfl w1.heap.size 5 i0 Try.underlying37 Try.underlying9 hi hz0 hz1 hz2 _ _ _ rfl hown3 T rfl (by unfold maxLen; omega) (by omega) (by have := hnx3.size; omega) ?_; intro b' w2 hown2 hgrow2 _)
            go_roundw
            case rel =>
              refine ⟨k + 1, by omega, by go_num, ?_, ?_⟩
              · rw [hstep.out]
                rw [if_neg h0]
                simpa [cellsL, Lib.strCells, Nat.add_assoc, Nat.add_comm 1] using hown2
              · exact hnx3.grown hgrow2 (by have := hnx3.size; omega) (fun j e => (hown3.lt j e).1)
            case measure => first | (simp [intOf]; done) | (simp [intOf]; omega)
    · obtain rfl : k = m + 1 := by omega
      have hJ : M.J s (m + 1) = s.data.toList := by rw [← hm.out]; exact M.J_all s
      rw [hJ] at hown
      have hconv := own_convert _ hown
      have hmk : M.mk s.data.toList = s := Lib.mk_data s
      rw [hmk] at hconv
      clear hJ hmk hm hcell
      go_wp2
      go_ret
      exact ⟨rfl, hbw.trans (hnx.mono hbw.size)⟩

set_option maxHeartbeats 400000 in
theorem lawLines_great (s : ByteArray) (hs : 4000 < s.size) (w : World) :
    Calls Try.prog 6 #[.string s] w fun e W' => e = .returned (.bool true) ∧ Below w.heap.size w W' := by
  have hsi : (4000 : Int) < s.size := by omega
  go_enter Try.func6, Try.ntmps6
  go_wp2_with (go_at_call 10; refine (lives_c _).mono ?_; rintro e w0 ⟨rfl, hb0⟩)
  go_ret
  exact ⟨rfl, hb0⟩

theorem lawLines_c (s : ByteArray) (w : World) : Calls Try.prog 6 #[.string s] w fun e W' => e = .returned (.bool true) ∧ Below w.heap.size w W' := by
  by_cases h : s.size ≤ 4000
  · exact lawLines_small s h w
  · exact lawLines_great s (by omega) w

end Go.Proofs.Ytfabfdglmimffaa
