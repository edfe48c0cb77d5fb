/-
  The document's answer for occurrences (thunkmillref16): the names of bindings, by a contract.
-/
import Derived.Test.YtjmpjfggbhongaaDoorZa
namespace Go.Proofs.YtjmpjfggbhongaaDoor
open Go.RowKit Go.Shelf Go.Maps
set_option linter.unusedVariables false

theorem infoStr16 : (Tryd.prog.info? 9).map (fun i => (i.zero, i.size, i.bytes)) = some (some (.string ⟨#[]⟩), 1, 16) := by kernel_rfl
def sL (l : List ByteArray) : List Value := l.map Value.string
theorem txIn_own {W : World} {b n : Nat} {o : Option Addr} {cap : Nat} {l : List ByteArray} (h : W.ownsRow b 9 1 (.slice o n cap) n (sL l)) (hn : l.length = n) : TxIn W W.heap.size o l := by
  by_cases hl : l = []
  · exact .inl hl
  · have hp : 0 < n := by rw [← hn]; exact List.length_pos_iff.2 hl
    obtain ⟨g, rfl, lg, -, -⟩ := owns_cellV h hp
    refine .inr ⟨g, 0, rfl, lg, fun k hk => ?_⟩
    obtain ⟨g', e, -, -, q⟩ := owns_cellV h (k := k) (by omega)
    cases e
    rw [Nat.zero_add, q]
    simp [sL, hk]
set_option maxHeartbeats 4000000 in
set_option maxRecDepth 100000 in
theorem rbindNames_c (d : Nat) (l : List (ByteArray × Tr d)) (o : Option Addr) (cap B : Nat) (w : World) (hl : RowIn B 8 (fun (b : ByteArray × Tr d) g off => w.cell? ⟨g, off, none⟩ = some (.string b.1) ∧ ExAt w B d b.2 g (off + 1)) o l) (hB : B ≤ w.heap.size) (hn : l.length ≤ 3000000) :
    Calls Tryd.prog 43 #[.slice o l.length cap] w fun e w' => ∃ o' c', e = .returned (.slice o' l.length c') ∧ TxIn w' w'.heap.size o' (l.map Prod.fst) ∧ Below w.heap.size w w' := by
  obtain ⟨l2, hl2⟩ : ∃ l2, l.map Prod.fst = l2 := ⟨_, rfl⟩
  have HA : Hid (∀ k (hk : k < l2.length), ∃ g off, o = some ⟨g, off, none⟩ ∧ g < w.heap.size ∧ w.cell? ⟨g, off + k * 8, none⟩ = some (.string l2[k])) := by
    intro k hk
    have hk' : k < l.length := by rw [← hl2, List.length_map] at hk; exact hk
    rcases hl with h9 | ⟨g, off, e, hg, h9⟩
    · rw [h9] at hk'; cases hk'
    · refine ⟨g, off, e, by omega, ?_⟩
      rw [(h9 k hk').1]; congr 2
      simp [← hl2]
  rw [hl2]
  obtain ⟨n, hnn⟩ : ∃ n, l.length = n := ⟨_, rfl⟩
  have hln : l2.length = n := by rw [← hl2, List.length_map, hnn]
  have HN : Hid (l2.length = n ∧ n ≤ 3000000) := ⟨hln, by omega⟩
  rw [hnn]
  have hnI : (n : Int) ≤ 3000000 := by omega
  have HI : Hid (w.ownsRow w.heap.size 9 1 (.slice none 0 0) 0 (sL (l2.take 0)) ∧ Below w.heap.size w w) := ⟨owns_nil _ _ _ _, Below.refl _ _⟩
  obtain ⟨i0, hi0, hz0, hz1, hz2⟩ := info_parts16 infoStr16
  have HI0 : Hid (Tryd.prog.info? 9 = some i0 ∧ i0.zero = some (.string ⟨#[]⟩) ∧ i0.size = 1 ∧ i0.bytes = 16) := ⟨hi0, hz0, hz1, hz2⟩
  clear hl hB hn hnn hl2 hln hi0 hz0 hz1 hz2
  go_enter Tryd.func43, Tryd.ntmps43
  go_wp2
  go_loopw [3, 4] (fun v i wr => ∃ (k : Nat) (ov : Option Addr) (cv : Nat), k ≤ n ∧ v = .slice ov k cv ∧ i = .int .i64 k ∧ Hid (wr.ownsRow w.heap.size 9 1 (.slice ov k cv) k (sL (l2.take k)) ∧ Below w.heap.size w wr)) (fun v i _ => n - (intOf i).toNat)
  case atStart => exact ⟨0, none, 0, Nat.zero_le _, rfl, rfl, HI⟩
  case round =>
    obtain ⟨k, ov, cv, hk, rfl, rfl, hS⟩ := hrel
    clear HI
    by_cases hkn : k < n
    · have hkl : k < l2.length := by rw [HN.out.1]; exact hkn
      obtain ⟨g, off, rfl, hg, hc0⟩ := HA.out k hkl
      have hc := (hS.out.2.cell (p := ⟨g, off + k * 8, none⟩) hg).trans hc0
      have hgw : g < wr.heap.size := Nat.lt_of_lt_of_le hg hS.out.2.size
      obtain ⟨y, hy⟩ : ∃ y, l2[k] = y := ⟨_, rfl⟩
      rw [hy] at hc
      have HY : Hid (sL (l2.take (k + 1)) = sL (l2.take k) ++ [.string y]) := by
        have : sL (l2.take (k + 1)) = sL (l2.take k) ++ [.string y] := by unfold sL; rw [List.take_succ_eq_append_getElem hkl, List.map_append, hy]; rfl
        exact this
      have hown := hS.out.1
      clear hy hkl hc0 hg
      go_wp2_with (at_builtin; refine wpList_append_lies _ rfl _ _ 24 rfl w.heap.size 9 i0 (.string ⟨#[]⟩) 1 16 Tryd.underlying24 HI0.out.1 HI0.out.2.1 HI0.out.2.2.1 HI0.out.2.2.2 rfl (by decide) _ _ _ rfl (owns_same16 hown (fun g hg => (below1 wr _).block g (owns_lt hown hg).2)) ⟨wr.heap.size, 0, none⟩ 1 1 [.string y] rfl rfl (cell_one16 _ _ _) (by simp [Value.oneCell']) (by decide) (by unfold maxLen; have := HN.out; omega) (by have := HN.out; omega) (by have := hS.out.2.size; have := (below1 wr (.cells #[.string y] 9)).size; omega) (wr.heap.size + 1) (Array.size_push _) ?_; intro g8 c8 w8 hown8 hgrow8 hat8 hlt8; have H8 : Hid (w8.ownsRow w.heap.size 9 1 (.slice (some ⟨g8, 0, none⟩) (k + 1) c8) (k + 1) (sL (l2.take (k + 1))) ∧ Below w.heap.size w w8) := ⟨by rw [HY.out]; exact hown8, ((hS.out.2.trans ((below1 wr (.cells #[.string y] 9)).mono hS.out.2.size))).grown hgrow8 (by have := hS.out.2.size; have := (below1 wr (.cells #[.string y] 9)).size; omega) (fun g hg => (owns_lt hown hg).1)⟩; clear hown8 hgrow8 hat8 hlt8)
      clear hc hgw hown
      go_roundw
      case rel => exact ⟨k + 1, some ⟨g8, 0, none⟩, c8, hkn, by first | rfl | go_num, by go_num, H8⟩
      case measure => simp [intOf]; omega
    · have hke : k = n := by omega
      have HF : Hid (TxIn wr wr.heap.size ov l2 ∧ Below w.heap.size w wr) := by
        have h := hS.out
        have e : l2.take k = l2 := List.take_of_length_le (by rw [HN.out.1]; omega)
        rw [e] at h
        exact ⟨txIn_own h.1 (by rw [HN.out.1, hke]), h.2⟩
      clear hS HA
      subst hke
      go_wp2
      go_ret
      exact ⟨ov, cv, rfl, HF.out⟩
end Go.Proofs.YtjmpjfggbhongaaDoor
