/-
  WorldScript: act, its kind 0.
-/
import Derived.Test.YtkjbdjobglnphaaXj
namespace Go.Proofs.Ytkjbdjobglnphaa
open Go.RowKit Go.Shelf Go.Maps Go.Conc
set_option linter.unusedVariables false
/-- A row that may be written, beside both worlds and the block D. -/
def Side (w W : World) (F G : Nat → Prop) (D : Nat) (o : Option Addr) (n : Nat) : Prop := 0 < n → ∃ g, o = some ⟨g, 0, none⟩ ∧ w.heap.size ≤ g ∧ ¬ F g ∧ ¬ G g ∧ g ≠ D ∧ ∃ cur, Blk W g cur 5 ∧ n ≤ cur.size
section
variable {w W W' : World} {F G F' : Nat → Prop} {P R D : Nat} {s t : St}
theorem side_of {b : Nat} {o : Option Addr} {n c : Nat} {xs : List Value} (h : W.ownsRow b 5 1 (.slice o n c) n xs) (hw : w.heap.size ≤ b) (hF : ∀ k, b ≤ k → k < W.heap.size → ¬ F k ∧ ¬ G k) (hD : D < b) : Side w W F G D o n := by
  intro h0
  rcases h with ⟨_, ⟨h1, h2⟩ | ⟨g, cap, cur, h1, h2, h3, h4, h5, h6, h7⟩⟩
  · omega
  · cases h1
    obtain ⟨f1, f2⟩ := hF g h2 (Array.getElem?_eq_some_iff.1 h3).1
    exact ⟨g, rfl, by omega, f1, f2, by omega, cur, h3, by omega⟩
theorem Side.oth {o : Option Addr} {n : Nat} (h : Side w W F G D o n) (ho : Oth F W W') (hF' : ∀ k, F' k → F k ∨ W.heap.size ≤ k) : Side w W' F' G D o n := by
  intro h0
  obtain ⟨g, e, h1, h2, h3, h4, cur, h5, h6⟩ := h h0
  exact ⟨g, e, h1, fun e => (hF' g e).elim h2 (fun e => by have := h5.lt; omega), h3, h4, cur, h5.at (ho.block g h5.lt h2), h6⟩
end
section
variable {w W : World} {F G : Nat → Prop} {P R : Nat} {s : St}
set_option maxHeartbeats 8000000 in
set_option maxRecDepth 100000 in
theorem act0_c (h : Sc w W F G P R s) (k : Int) (hk : pickM k = 0) (oB : Option Addr) (nB cB : Nat) (l : List Int) (hl : l.length = nB) (hln : nB ≤ 4000) (hob : oB = none → l = [] ∧ cB = 0) (hB : BytAt w oB l) (c N : Int) : Calls Try.prog 17 #[.pointer (some ⟨P, 0, none⟩), .pointer (some ⟨R, 0, none⟩), actV k oB nB cB c N] W fun r W' => r = .returned (.bool true) ∧ Goes2 w W' P R := by
  have HP : Hid (∀ X, Calls Try.prog 15 #[.int .i64 k, .int .i64 6] X fun r W' => r = .returned (.int .i64 0) ∧ W' = X) := fun X => by have := pick_c k X; rwa [hk] at this
  obtain ⟨W1, hW1⟩ : ∃ W1, W1 = W.alloc (.cells #[.int .i64 k, .slice oB nB cB, .int .u8 c, .int .i64 N] 34) := ⟨_, rfl⟩
  have H1 : Hid (Sc w W1 F G P R s) := by rw [hW1]; exact h.on (below1 W _)
  have HB : Hid (Blk W1 W.heap.size #[.int .i64 k, .slice oB nB cB, .int .u8 c, .int .i64 N] 34) := by rw [hW1]; exact Blk.new W _ _
  have HF : Hid (∀ j, W.heap.size ≤ j → ¬ F j ∧ ¬ G j) := fun j hj => ⟨fun e => by have := (h.fl _ e).2; omega, fun e => by have := (h.gl _ e).2; omega⟩
  obtain ⟨ee, hee⟩ : ∃ ee, feedE s nB = ee := ⟨_, rfl⟩
  have HE : Hid (feedE s nB = ee ∧ w.heap.size ≤ W.heap.size ∧ W1.heap.size = W.heap.size + 1) := ⟨hee, h.below.size, by rw [hW1]; simp⟩
  have hc0 := HB.out.cell 0 _ rfl
  have hc1 := HB.out.cell 1 _ rfl
  have HW : Hid (W1 = W.alloc (.cells #[.int .i64 k, .slice oB nB cB, .int .u8 c, .int .i64 N] 34)) := hW1
  have HL : Hid (l.length = nB ∧ nB ≤ 4000 ∧ (oB = none → l = [] ∧ cB = 0) ∧ BytAt w oB l) := ⟨hl, hln, hob, hB⟩
  have HC : Hid (Calls Try.prog 26 #[.slice oB nB cB] W1 (Copied nB l W1)) := bytes_c oB nB cB l hl hln hob W1 (hB.oth (Oth.of_below (S := fun _ => False) H1.out.below) (fun _ _ _ e => e))
  have hni : (nB : Int) ≤ 4000 := by omega
  clear h hk hW1 hee hl hln hob hB
  unfold actV
  go_enter Try.func17, Try.ntmps17
  go_wp2_with (go_at_call 15; fail)
  rw [← HW.out]
  refine (HP.out _).mono ?_
  rintro r w1 ⟨rfl, rfl⟩
  go_wp2_with (go_at_call 26; fail)
  refine HC.out.mono ?_
  rintro r w2 ⟨o7, c7, rfl, h2, hb2⟩
  have H2 : Hid (Sc w w2 F G P R s ∧ w2.ownsRow w1.heap.size 5 1 (.slice o7 nB c7) nB (vals l) ∧ Below w1.heap.size w1 w2) := ⟨H1.out.on hb2, h2, hb2⟩
  clear h2 hb2 hc0 hc1 HC
  go_wp2_with (go_at_call 9; fail)
  refine (H2.out.1.putP (v := .int .i64 ee) (t := feedS s l) (feedS_ok H2.out.1.ok l) (by rw [← HE.out.1]; exact H2.out.1.p.feed H2.out.1.ok o7 nB c7 l HL.out.1 (by omega) (owns_byt (b := w1.heap.size) (c := c7) (by rw [HL.out.1]; exact H2.out.2.1)) (fun a ha _ => (HF.out a.block (by have := (H2.out.2.1.lt a.block (by rw [ha]; rfl)).1; have := HE.out.2.2; omega)).1))).mono ?_
  rintro r w3 ⟨rfl, ho3, F', h3, hF3⟩
  have HS2 : Hid (Side w w2 F G W.heap.size o7 nB) := side_of H2.out.2.1 (by have := HE.out; omega) (fun k hk _ => HF.out k (by have := HE.out.2.2; omega)) (by have := HE.out.2.2; omega)
  have H3 : Hid (Sb w w3 F' G P R s (feedS s l) ∧ Side w w3 F' G W.heap.size o7 nB ∧ Blk w3 W.heap.size #[.int .i64 k, .slice oB nB cB, .int .u8 c, .int .i64 N] 34) := ⟨h3, HS2.out.oth ho3 hF3, (HB.out.below H2.out.2.2 HB.out.lt).at (ho3.block _ (HB.out.below H2.out.2.2 HB.out.lt).lt (HF.out _ (Nat.le_refl _)).1)⟩
  clear h3 ho3 hF3 HS2
  go_wp2
  go_loopw [9] (fun v9 wr => ∃ i : Nat, v9 = .int .i64 (i : Int) ∧ Hid (i ≤ nB ∧ Sb w wr F' G P R s (feedS s l) ∧ Side w wr F' G W.heap.size o7 nB ∧ Blk wr W.heap.size #[.int .i64 k, .slice oB nB cB, .int .u8 c, .int .i64 N] 34)) (fun v _ => nB - (intOf v).toNat)
  case atStart => exact ⟨0, rfl, Nat.zero_le _, H3.out⟩
  case round =>
    obtain ⟨i, rfl, HI⟩ := hrel
    by_cases hi : i < nB
    · have hii : (i : Int) < (nB : Int) := by omega
      obtain ⟨g, rfl, hg1, hg2, hg3, hg4, cur, hg5, hg6⟩ := HI.out.2.2.1 (by omega)
      obtain ⟨y, hy⟩ : ∃ y, cur[i]? = some y := ⟨cur[i]'(by omega), Array.getElem?_eq_getElem _⟩
      have hcy := hg5.cell i y hy
      have hfy := hg5.frozen i
      have hlt := hg5.lt
      have HK : Hid (i < nB) := hi
      have HG : Hid (w.heap.size ≤ g ∧ ¬ F' g ∧ ¬ G g ∧ g ≠ W.heap.size ∧ Blk wr g cur 5 ∧ nB ≤ cur.size) := ⟨hg1, hg2, hg3, hg4, hg5, hg6⟩
      clear hg1 hg2 hg3 hg4 hg5 hg6 hy hi
      go_wp2
      refine ⟨⟨i + 1, by congr 1, HK.out, ?_, ?_, ?_⟩, ?_⟩
      · exact HI.out.2.1.beside (H := (· = g)) (Oth.setCell (S := (· = g)) (p := ⟨g, i, none⟩) (Oth.refl _ _) (fun _ => rfl) _) (fun k hk e => HG.out.2.1 (by rw [← e]; exact hk)) (fun k hk e => HG.out.2.2.1 (by rw [← e]; exact hk)) (fun k e => by rw [e]; exact HG.out.1)
      · exact fun _ => ⟨g, rfl, HG.out.1, HG.out.2.1, HG.out.2.2.1, HG.out.2.2.2.1, _, HG.out.2.2.2.2.1.set i _, by simpa using HG.out.2.2.2.2.2⟩
      · exact HI.out.2.2.2.at (Below.heap_setCell _ _ _ _ HG.out.2.2.2.1.symm)
      · show nB - ((i : Int) + 1).toNat < nB - (i : Int).toNat
        have := HK.out
        omega
    · have hii : ¬ (i : Int) < (nB : Int) := by omega
      have hc1 := HI.out.2.2.2.cell 1 _ rfl
      clear hi
      go_wp2_with (go_at_call 27; fail)
      refine (HI.out.2.1.putR (v := .int .i64 ee) (by rw [← HE.out.1]; exact HI.out.2.1.r.feed HI.out.2.1.ok HI.out.2.1.below.size oB nB cB l HL.out.1 (by have := HL.out.2.1; omega) HL.out.2.2.1 (HL.out.2.2.2.oth (Oth.of_below (S := fun _ => False) HI.out.2.1.below) (fun _ _ _ e => e)))).mono ?_
      rintro r w5 ⟨rfl, -, h5⟩
      have H5 : Hid (Goes2 w w5 P R) := h5
      clear h5
      go_wp2
      go_ret
      exact ⟨rfl, H5.out⟩
end
end Go.Proofs.Ytkjbdjobglnphaa
