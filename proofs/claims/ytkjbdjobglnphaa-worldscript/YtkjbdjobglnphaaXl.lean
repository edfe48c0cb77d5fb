/-
  WorldScript: act, its kind 5.
-/
import Derived.Test.YtkjbdjobglnphaaXk
namespace Go.Proofs.Ytkjbdjobglnphaa
open Go.RowKit Go.Shelf Go.Maps Go.Conc
set_option linter.unusedVariables false
theorem byt_rep {W : World} {g n : Nat} {c : Int} {cur : Array Value} (h : Blk W g cur 5) (hc : ∀ j, j < n → cur[j]? = some (.int .u8 c)) : BytAt W (some ⟨g, 0, none⟩) (List.replicate n c) := by
  refine .inr ⟨g, 0, rfl, h.lt, fun j x hx => ?_⟩
  rw [List.getElem?_replicate] at hx
  split at hx
  · rename_i hj
    cases hx
    rw [Nat.zero_add]
    exact h.cell j _ (hc j hj)
  · cases hx
section
variable {w W : World} {F G : Nat → Prop} {P R : Nat} {s : St}
set_option maxHeartbeats 8000000 in
set_option maxRecDepth 100000 in
theorem act5_c (h : Sc w W F G P R s) (k : Int) (hk : pickM k = 5) (oB : Option Addr) (nB cB : Nat) (c N : Int) (hN : N ≤ 1048586) : Calls Try.prog 17 #[.pointer (some ⟨P, 0, none⟩), .pointer (some ⟨R, 0, none⟩), actV k oB nB cB c N] W fun r W' => r = .returned (.bool true) ∧ Goes2 w W' P R := by
  have HP : Hid (∀ X, Calls Try.prog 15 #[.int .i64 k, .int .i64 6] X fun r W' => r = .returned (.int .i64 5) ∧ W' = X) := fun X => by have := pick_c k X; rwa [hk] at this
  obtain ⟨W1, hW1⟩ : ∃ W1, W1 = W.alloc (.cells #[.int .i64 k, .slice oB nB cB, .int .u8 c, .int .i64 N] 34) := ⟨_, rfl⟩
  have H1 : Hid (Sc w W1 F G P R s) := by rw [hW1]; exact h.on (below1 W _)
  have HB : Hid (Blk W1 W.heap.size #[.int .i64 k, .slice oB nB cB, .int .u8 c, .int .i64 N] 34) := by rw [hW1]; exact Blk.new W _ _
  have HF : Hid (∀ j, W.heap.size ≤ j → ¬ F j ∧ ¬ G j) := fun j hj => ⟨fun e => by have := (h.fl _ e).2; omega, fun e => by have := (h.gl _ e).2; omega⟩
  have HE : Hid (w.heap.size ≤ W.heap.size ∧ W1.heap.size = W.heap.size + 1) := ⟨h.below.size, by rw [hW1]; simp⟩
  have hc0 := HB.out.cell 0 _ rfl
  have hc3 := HB.out.cell 3 _ rfl
  have HW : Hid (W1 = W.alloc (.cells #[.int .i64 k, .slice oB nB cB, .int .u8 c, .int .i64 N] 34)) := hW1
  have HN : Hid (N ≤ 1048586) := hN
  clear h hk hW1 hN
  unfold actV
  go_enter Try.func17, Try.ntmps17
  go_wp2_with (go_at_call 15; fail)
  rw [← HW.out]
  refine (HP.out _).mono ?_
  rintro r w1 ⟨rfl, rfl⟩
  clear hc0 HW
  go_upto_region 21 with fail
  go_cut [17] from 103 (fun v17 X => ∃ n : Nat, v17 = .slice (some ⟨w1.heap.size, 0, none⟩) n n ∧ Hid (n ≤ 1048586 ∧ X = w1.alloc (.cells (madeCells #[.int .u8 0] n) 5)))
  case first =>
    by_cases hN : 0 < N
    · have hmk := mkByte N N (by omega) (Int.le_refl _) (by have := HN.out; omega) w1
      have hmx : max 0 N = N := by omega
      go_wp2
      all_goals (go_meet; exact ⟨N.toNat, rfl, by have := HN.out; omega, rfl⟩)
    · have hmk := mkByte 0 0 (by decide) (by decide) (by decide) w1
      simp only [show (0 : Int).toNat = 0 from rfl] at hmk
      have hmx : max 0 N = 0 := by omega
      go_wp2
      all_goals (go_meet; exact ⟨0, rfl, by decide, rfl⟩)
  case rest =>
    obtain ⟨n, rfl, HX⟩ := hcut
    have hni : (n : Int) ≤ 1048586 := by have := HX.out.1; omega
    have HLo : Hid (Sc w wc F G P R s ∧ Blk wc W.heap.size #[.int .i64 k, .slice oB nB cB, .int .u8 c, .int .i64 N] 34 ∧ Blk wc w1.heap.size (madeCells #[.int .u8 0] n) 5) := by
      rw [HX.out.2]
      exact ⟨H1.out.on (below1 w1 _), HB.out.alloc _, Blk.new w1 _ _⟩
    clear hc3
    go_wp2
    go_loopw [18] (fun v18 wr => ∃ i : Nat, v18 = .int .i64 (i : Int) ∧ Hid (i ≤ n ∧ Sc w wr F G P R s ∧ Blk wr W.heap.size #[.int .i64 k, .slice oB nB cB, .int .u8 c, .int .i64 N] 34 ∧ ∃ cur, Blk wr w1.heap.size cur 5 ∧ cur.size = n ∧ ∀ j, j < i → cur[j]? = some (.int .u8 c))) (fun v _ => n - (intOf v).toNat)
    case atStart => exact ⟨0, rfl, Nat.zero_le _, HLo.out.1, HLo.out.2.1, _, HLo.out.2.2, made_size n, fun j hj => absurd hj (Nat.not_lt_zero _)⟩
    case round =>
      obtain ⟨i, rfl, HI⟩ := hrel
      by_cases hi : i < n
      · have hii : (i : Int) < (n : Int) := by omega
        obtain ⟨-, -, -, cur, hg5, hg6, hg7⟩ := HI.out
        obtain ⟨y, hy⟩ : ∃ y, cur[i]? = some y := ⟨cur[i]'(by omega), Array.getElem?_eq_getElem _⟩
        have hcy := hg5.cell i y hy
        have hfy := hg5.frozen i
        have hlt := hg5.lt
        have hc2 := HI.out.2.2.1.cell 2 _ rfl
        have HK : Hid (i < n) := hi
        have HG : Hid (Blk wr w1.heap.size cur 5 ∧ cur.size = n ∧ ∀ j, j < i → cur[j]? = some (.int .u8 c)) := ⟨hg5, hg6, hg7⟩
        clear hg5 hg6 hg7 hy hi
        go_wp2
        refine ⟨⟨i + 1, by congr 1, HK.out, ?_, ?_, _, HG.out.1.set i _, ?_, ?_⟩, ?_⟩
        · exact HI.out.2.1.beside (H := (· = w1.heap.size)) (Oth.setCell (S := (· = w1.heap.size)) (p := ⟨w1.heap.size, i, none⟩) (Oth.refl _ _) (fun _ => rfl) _) (fun k hk e => (HF.out k (by have := HE.out; omega)).1 hk) (fun k hk e => (HF.out k (by have := HE.out; omega)).2 hk) (fun k e => by have := HE.out; omega)
        · exact HI.out.2.2.1.at (Below.heap_setCell _ _ _ _ (by have := HE.out; simp only; omega))
        · simpa using HG.out.2.1
        · intro j hj
          rw [Array.getElem?_setIfInBounds]
          split
          · rename_i e; subst e; rw [if_pos (by have := HG.out.2.1; have := HK.out; omega)]
          · exact HG.out.2.2 j (by omega)
        · show n - ((i : Int) + 1).toNat < n - (i : Int).toNat
          have := HK.out
          omega
      · have hii : ¬ (i : Int) < (n : Int) := by omega
        have HR : Hid (BytAt wr (some ⟨w1.heap.size, 0, none⟩) (List.replicate n c)) := by
          obtain ⟨h9, -, -, cur, hg5, hg6, hg7⟩ := HI.out
          exact byt_rep hg5 (fun j hj => hg7 j (by omega))
        obtain ⟨ee, hee⟩ : ∃ ee, feedE s n = ee := ⟨_, rfl⟩
        have HEE : Hid (feedE s n = ee) := hee
        have hlr : (List.replicate n c).length = n := List.length_replicate
        have HLR : Hid ((List.replicate n c).length = n ∧ n ≤ 1048586) := ⟨hlr, HX.out.1⟩
        clear hi hee hlr
        go_wp2_with (go_at_call 9; fail)
        refine (HI.out.2.1.putP (v := .int .i64 ee) (t := feedS s (List.replicate n c)) (feedS_ok HI.out.2.1.ok _) (by rw [← HEE.out]; exact HI.out.2.1.p.feed HI.out.2.1.ok _ n n _ HLR.out.1 (by omega) HR.out (fun a ha _ => by cases ha; exact (HF.out _ (by have := HE.out; simp only; omega)).1))).mono ?_
        rintro r w3 ⟨rfl, ho3, F', h3, hF3⟩
        have H3 : Hid (Sb w w3 F' G P R s (feedS s (List.replicate n c)) ∧ BytAt w3 (some ⟨w1.heap.size, 0, none⟩) (List.replicate n c)) := ⟨h3, HR.out.oth ho3 (fun a ha _ => by cases ha; exact (HF.out _ (by have := HE.out; simp only; omega)).1)⟩
        clear h3 ho3 hF3
        go_wp2_with (go_at_call 27; fail)
        refine (H3.out.1.putR (v := .int .i64 ee) (by rw [← HEE.out]; exact H3.out.1.r.feed H3.out.1.ok H3.out.1.below.size _ n n _ HLR.out.1 (by have := HLR.out.2; omega) (fun e => by cases e) H3.out.2)).mono ?_
        rintro r w5 ⟨rfl, -, h5⟩
        have H5 : Hid (Goes2 w w5 P R) := h5
        clear h5
        go_wp2
        go_ret
        exact ⟨rfl, H5.out⟩
end
end Go.Proofs.Ytkjbdjobglnphaa
