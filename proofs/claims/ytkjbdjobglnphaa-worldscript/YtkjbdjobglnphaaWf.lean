/-
  Package world: Feed, by contracts.
-/
import Derived.Test.YtkjbdjobglnphaaWe
namespace Go.Proofs.Ytkjbdjobglnphaa
open Go.RowKit Go.Shelf Go.Maps Go.Conc
set_option linter.unusedVariables false
/-- Bytes that can be read. -/
def BytAt (W : World) (ob : Option Addr) (l : List Int) : Prop := l = [] ∨ ∃ g off, ob = some ⟨g, off, none⟩ ∧ g < W.heap.size ∧ ∀ j x, l[j]? = some x → W.cell? ⟨g, off + j, none⟩ = some (.int .u8 x)
theorem BytAt.at {W : World} {ob : Option Addr} {l : List Int} (h : BytAt W ob l) {j : Nat} {x : Int} (hx : l[j]? = some x) : ∃ g off, ob = some ⟨g, off, none⟩ ∧ g < W.heap.size ∧ W.cell? ⟨g, off + j, none⟩ = some (.int .u8 x) := by
  rcases h with rfl | ⟨g, off, e, hg, h⟩
  · simp at hx
  · exact ⟨g, off, e, hg, h j x hx⟩
theorem cell_chan {W : World} {C cap off : Nat} {u : List Int} {v : Value} (h : ChAt W C cap u) (hv : W.cell? ⟨C, off, none⟩ = some v) : False := by
  obtain ⟨s, r, h⟩ := h
  simp [World.cell?, h] at hv
theorem BytAt.oth {W W' : World} {S : Nat → Prop} {ob : Option Addr} {l : List Int} (h : BytAt W ob l) (ho : Oth S W W') (hs : ∀ a, ob = some a → l ≠ [] → ¬ S a.block) : BytAt W' ob l := by
  rcases h with rfl | ⟨g, off, e, hg, h⟩
  · exact .inl rfl
  · by_cases hl : l = []
    · exact .inl hl
    · refine .inr ⟨g, off, e, Nat.lt_of_lt_of_le hg ho.size, fun j x hx => ?_⟩
      rw [World.cell?_of_block (w := W) (ho.block g hg (hs _ e hl))]
      exact h j x hx
theorem BytAt.notChan {W : World} {ob : Option Addr} {l : List Int} (h : BytAt W ob l) {C cap : Nat} {u : List Int} (hc : ChAt W C cap u) : ∀ a, ob = some a → l ≠ [] → a.block ≠ C := by
  intro a ha hl e
  rcases h with rfl | ⟨g, off, e2, hg, h⟩
  · exact hl rfl
  · obtain ⟨x, l', rfl⟩ := List.exists_cons_of_ne_nil hl
    rw [ha] at e2
    cases e2
    have := h 0 x rfl
    rw [show g = C from e] at this
    exact cell_chan hc this
/-- What a world is behind bytes that were fed. -/
def Fed (w W' : World) (P C : Nat) (u : List Int) (fed : Nat) (o : Option Addr) (n c : Nat) : Prop := ∃ C2 cap2, WdAt W' P C2 cap2 u fed false o n c ∧ Oth (fun j => j = P ∨ j = C) w W' ∧ (C2 = C ∨ w.heap.size ≤ C2)
section
variable {P C cap : Nat} {u : List Int} {fed : Nat} {en : Bool} {o : Option Addr} {n c : Nat}
theorem room_c (m : Nat) (w : World) (h : WdAt w P C cap u fed en o n c) (hm2 : u.length + m ≤ 1048576) : Calls Try.prog 23 #[.pointer (some ⟨P, 0, none⟩), .int .i64 (m : Int)] w fun r W' => r = .returned (.tuple #[]) ∧ ∃ C2 cap2, u.length + m ≤ cap2 ∧ WdAt W' P C2 cap2 u fed en o n c ∧ Oth (fun j => j = P ∨ j = C) w W' ∧ (C2 = C ∨ w.heap.size ≤ C2) := by
  by_cases hm : u.length + m ≤ cap
  · refine (room_fits m w h hm).mono ?_
    rintro r W' ⟨rfl, rfl⟩
    exact ⟨rfl, C, cap, hm, h, Oth.refl _ _, .inl rfl⟩
  · refine (room_grows m w h hm hm2).mono ?_
    rintro r W' ⟨rfl, cap2, h1, h2, h3⟩
    exact ⟨rfl, _, cap2, h1, h2, h3, .inr (Nat.le_refl _)⟩
set_option maxRecDepth 100000 in
set_option maxHeartbeats 1000000 in
theorem feed_over (ob : Option Addr) (m cb : Nat) (w : World) (h : WdAt w P C cap u fed true o n c) : Calls Try.prog 9 #[.pointer (some ⟨P, 0, none⟩), .slice ob m cb] w fun r W' => r = .returned (.int .i64 11) ∧ W' = w := by
  have HM : Hid (Calls Try.prog 22 #[.pointer (some ⟨P, 0, none⟩)] w fun r W' => r = .returned (.bool true) ∧ W' = w) := made_c w h
  obtain ⟨c0, c1, c2, c3, c4, f0, f1, f2, f3, f4⟩ := h.blk.all5
  clear h
  go_enter Try.func9, Try.ntmps9
  go_wp2_with (go_at_call 22; fail)
  refine HM.out.mono ?_
  rintro r w1 ⟨rfl, rfl⟩
  go_wp2
  go_ret
  exact ⟨rfl, rfl⟩
set_option maxRecDepth 100000 in
set_option maxHeartbeats 1000000 in
theorem feed_long (ob : Option Addr) (m cb : Nat) (hm : (m : Int) ≤ 9223372036854775807) (w : World) (h : WdAt w P C cap u fed false o n c) (hl : ¬ fed + m ≤ 1048576) : Calls Try.prog 9 #[.pointer (some ⟨P, 0, none⟩), .slice ob m cb] w fun r W' => r = .returned (.int .i64 3) ∧ W' = w := by
  have HM : Hid (Calls Try.prog 22 #[.pointer (some ⟨P, 0, none⟩)] w fun r W' => r = .returned (.bool true) ∧ W' = w) := made_c w h
  obtain ⟨c0, c1, c2, c3, c4, f0, f1, f2, f3, f4⟩ := h.blk.all5
  have hw := wrapS (1048576 - (fed : Int)) (by have := h.most; omega) (by omega)
  have hd : decide (1048576 - (fed : Int) < (m : Int)) = true := by simp; omega
  have hd2 : 1048576 - (fed : Int) < (m : Int) := by omega
  have hf : (fed : Int) ≤ 1048576 := by have := h.most; omega
  clear h hl
  go_enter Try.func9, Try.ntmps9
  go_wp2_with (go_at_call 22; fail)
  refine HM.out.mono ?_
  rintro r w1 ⟨rfl, rfl⟩
  go_wp2
  go_ret
  exact ⟨rfl, rfl⟩
set_option maxRecDepth 100000 in
set_option maxHeartbeats 1000000 in
theorem feed_ok (ob : Option Addr) (l : List Int) (cb : Nat) (w : World) (h : WdAt w P C cap u fed false o n c) (hl : fed + l.length ≤ 1048576) (hb : BytAt w ob l) (hP : ∀ a, ob = some a → l ≠ [] → a.block ≠ P) : Calls Try.prog 9 #[.pointer (some ⟨P, 0, none⟩), .slice ob l.length cb] w fun r W' => r = .returned (.int .i64 0) ∧ Fed w W' P C (u ++ l) (fed + l.length) o n c := by
  have HM : Hid (Calls Try.prog 22 #[.pointer (some ⟨P, 0, none⟩)] w fun r W' => r = .returned (.bool true) ∧ W' = w) := made_c w h
  have HR : Hid (Calls Try.prog 23 #[.pointer (some ⟨P, 0, none⟩), .int .i64 (l.length : Int)] w fun r W' => r = .returned (.tuple #[]) ∧ ∃ C2 cap2, u.length + l.length ≤ cap2 ∧ WdAt W' P C2 cap2 u fed false o n c ∧ Oth (fun j => j = P ∨ j = C) w W' ∧ (C2 = C ∨ w.heap.size ≤ C2)) := room_c l.length w h (by have := h.le; omega)
  obtain ⟨c0, c1, c2, c3, c4, f0, f1, f2, f3, f4⟩ := h.blk.all5
  have hw := wrapS (1048576 - (fed : Int)) (by have := h.most; omega) (by omega)
  have hf : (fed : Int) ≤ 1048576 := by have := h.most; omega
  have HW : Hid (WdAt w P C cap u fed false o n c ∧ BytAt w ob l ∧ (∀ a, ob = some a → l ≠ [] → a.block ≠ P)) := ⟨h, hb, hP⟩
  obtain ⟨m, hm⟩ : ∃ m, l.length = m := ⟨_, rfl⟩
  have HL : Hid (l.length = m ∧ fed + m ≤ 1048576) := ⟨hm, hm ▸ hl⟩
  rw [hm] at HR hl ⊢
  have hd : decide (1048576 - (fed : Int) < (m : Int)) = false := by simp; omega
  have hd2 : ¬ 1048576 - (fed : Int) < (m : Int) := by omega
  have hmi : (m : Int) ≤ 1048576 := by omega
  clear h hl hb hP hm
  go_enter Try.func9, Try.ntmps9
  go_wp2_with (go_at_call 22; fail)
  refine HM.out.mono ?_
  rintro r w1 ⟨rfl, rfl⟩
  go_wp2_with (go_at_call 23; fail)
  refine HR.out.mono ?_
  rintro r w2 ⟨rfl, C2, cap2, hr, hw2, ho2, hC2⟩
  have H2 : Hid (u.length + m ≤ cap2 ∧ WdAt w2 P C2 cap2 u fed false o n c ∧ Oth (fun j => j = P ∨ j = C) w1 w2 ∧ (C2 = C ∨ w1.heap.size ≤ C2)) := ⟨hr, hw2, ho2, hC2⟩
  have HBy : Hid (BytAt w2 ob l) := HW.out.2.1.oth ho2 (fun a ha hl2 e => e.elim (HW.out.2.2 a ha hl2) (HW.out.2.1.notChan HW.out.1.ch a ha hl2))
  clear hr hw2 ho2 hC2 c0 c1 c2 c3 c4 f0 f1 f2 f3 f4 HM HR
  go_wp2
  go_loopw [31] (fun v31 wr => ∃ j : Nat, v31 = .int .i64 (j : Int) ∧ Hid (j ≤ m ∧ ChAt wr C2 cap2 (u ++ l.take j) ∧ Oth (· = C2) w2 wr)) (fun v _ => m - (intOf v).toNat)
  case atStart => exact ⟨0, rfl, Nat.zero_le _, by simpa using H2.out.2.1.ch, Oth.refl _ _⟩
  case round =>
    obtain ⟨j, rfl, HI⟩ := hrel
    have HBr : Hid (Blk wr P #[.pointer (some ⟨P, 0, none⟩), .chan (some C2), .int .i64 (fed : Int), .bool false, .slice o n c] 43) := H2.out.2.1.blk.at (HI.out.2.2.block P H2.out.2.1.blk.lt (fun e => H2.out.2.1.ch.ne H2.out.2.1.blk e.symm))
    obtain ⟨c0, c1, c2, c3, c4, f0, f1, f2, f3, f4⟩ := HBr.out.all5
    by_cases hj : j < m
    · have hji : (j : Int) < (m : Int) := by omega
      obtain ⟨x, hx⟩ : ∃ x, l[j]? = some x := ⟨l[j]'(by have := HL.out; omega), List.getElem?_eq_getElem _⟩
      have HBw : BytAt wr ob l := HBy.out.oth HI.out.2.2 (fun a ha hl2 e => HBy.out.notChan H2.out.2.1.ch a ha hl2 e)
      obtain ⟨g, off, rfl, hg, hcx⟩ := HBw.at hx
      have HJ : Hid (j < m ∧ l[j]? = some x) := ⟨hj, hx⟩
      clear HBw hj hx
      go_upto_region 11 with fail
      refine wp_region_to ?_
      refine OpsTo.value rfl (by kernel_rfl) (v := .pointer (some ⟨P, 0, none⟩)) (by kernel_rfl) ?_
      refine OpsTo.value rfl (by kernel_rfl) (v := .pointer (some ⟨P, 0, none⟩)) (by kernel_rfl) ?_
      refine OpsTo.value rfl (by kernel_rfl) (v := .pointer (some ⟨P, 1, none⟩)) (by kernel_rfl) ?_
      refine OpsTo.value rfl (by kernel_rfl) (v := .chan (some C2)) (by simp [execOp, go_sem, Act.eval, Act.put, c1]) ?_
      refine OpsTo.value rfl (by kernel_rfl) (v := .int .u8 x) (by kernel_rfl) ?_
      obtain ⟨s1, r1, h1⟩ := HI.out.2.1
      refine OpsTo.send (c := C2) (v := .int .u8 x) (z' := .tuple #[]) rfl (by kernel_rfl) (by kernel_rfl) h1 (by rw [bvs_size, List.length_append, List.length_take]; have := H2.out.1; have := HL.out; have := HJ.out; omega) ?_
      refine OpsTo.nil ?_
      have HQ : Hid (∃ W, W = wr.setChan C2 cap2 ((bvs (u ++ l.take j)).push (.int .u8 x)) false (s1 + 1) r1 false) := ⟨_, rfl⟩
      obtain ⟨W, hW⟩ := HQ.out
      rw [← hW]
      have HF : Hid (ChAt W C2 cap2 (u ++ l.take (j + 1)) ∧ Oth (· = C2) w2 W) := by
        rw [hW, ← take_snoc HJ.out.2, ← List.append_assoc, bvs_push]
        exact ⟨⟨s1 + 1, r1, heap_setChan _ _ _ _ _ _ _ _ HI.out.2.1.lt⟩, HI.out.2.2.setChan (fun _ => rfl) _ _ _ _ _ _⟩
      clear hW HQ h1 c0 c1 c2 c3 c4 f0 f1 f2 f3 f4 HBr hcx
      go_wp2
      refine ⟨⟨j + 1, by congr 1, HJ.out.1, HF.out.1, HF.out.2⟩, ?_⟩
      show m - ((j : Int) + 1).toNat < m - (j : Int).toNat
      have := HJ.out.1
      omega
    · have hji : ¬ (j : Int) < (m : Int) := by omega
      have HF : Hid (ChAt wr C2 cap2 (u ++ l)) := by
        have h9 := HI.out.2.1
        rwa [List.take_of_length_le (by have := HL.out; omega)] at h9
      have hwr := wrapS ((fed : Int) + (m : Int)) (by omega) (by omega)
      clear hj
      go_wp2
      go_ret
      refine ⟨rfl, C2, cap2, ⟨?_, HF.out.at (Below.heap_setCell _ _ _ _ (H2.out.2.1.ch.ne H2.out.2.1.blk)), by rw [List.length_append]; have := HL.out; have := H2.out.1; omega, by rw [List.length_append]; have := HL.out; have := H2.out.2.1.le; omega, HL.out.2, H2.out.2.1.capb⟩, ?_, H2.out.2.2.2⟩
      · exact HBr.out.set 2 _
      · exact Oth.setCell (p := ⟨P, 2, none⟩) (H2.out.2.2.1.trans HI.out.2.2 (fun k hk e => by rcases H2.out.2.2.2 with h5 | h5 <;> omega)) (fun _ => .inl rfl) _
end
end Go.Proofs.Ytkjbdjobglnphaa
