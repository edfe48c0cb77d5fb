/-
  WorldScript: act, its kind 4.
-/
import Derived.Test.YtkjbdjobglnphaaXi
namespace Go.Proofs.Ytkjbdjobglnphaa
open Go.RowKit Go.Shelf Go.Maps Go.Conc
set_option linter.unusedVariables false
section
variable {w W : World} {F G : Nat → Prop} {P R : Nat} {s : St}
set_option maxHeartbeats 8000000 in
set_option maxRecDepth 100000 in
theorem act4_c (h : Sc w W F G P R s) (k : Int) (hk : pickM k = 4) (oB : Option Addr) (nB cB : Nat) (c N : Int) : Calls Try.prog 17 #[.pointer (some ⟨P, 0, none⟩), .pointer (some ⟨R, 0, none⟩), actV k oB nB cB c N] W fun r W' => r = .returned (.bool true) ∧ Goes2 w W' P R := by
  have hdep : Try.prog.follows Departure.mixedOrders = true := by kernel_rfl
  have HP : Hid (∀ X, Calls Try.prog 15 #[.int .i64 k, .int .i64 6] X fun r W' => r = .returned (.int .i64 4) ∧ W' = X) := fun X => by have := pick_c k X; rwa [hk] at this
  obtain ⟨W1, hW1⟩ : ∃ W1, W1 = W.alloc (.cells #[.int .i64 k, .slice oB nB cB, .int .u8 c, .int .i64 N] 34) := ⟨_, rfl⟩
  have H1 : Hid (Sc w W1.drew F G P R s) := by rw [hW1]; exact h.on (below1 W _).drew
  have HB : Hid (Blk W1 W.heap.size #[.int .i64 k, .slice oB nB cB, .int .u8 c, .int .i64 N] 34) := by rw [hW1]; exact Blk.new W _ _
  have HF : Hid (¬ F W.heap.size ∧ ¬ G W.heap.size) := ⟨fun e => by have := (h.fl _ e).2; omega, fun e => by have := (h.gl _ e).2; omega⟩
  obtain ⟨ee, hee⟩ : ∃ ee, putE s = ee := ⟨_, rfl⟩
  have HE : Hid (putE s = ee) := hee
  have hc0 := HB.out.cell 0 _ rfl
  have HW : Hid (W1 = W.alloc (.cells #[.int .i64 k, .slice oB nB cB, .int .u8 c, .int .i64 N] 34)) := hW1
  have HC : Hid (Calls Try.prog 20 #[.pointer (some ⟨P, 0, none⟩), .int .u8 c] W1.drew fun r W' => r = .returned (.int .i64 ee) ∧ Oth F W1.drew W' ∧ ∃ F', Sb w W' F' G P R s (putS s c) ∧ ∀ k, F' k → F k ∨ W1.drew.heap.size ≤ k) := H1.out.putP (v := .int .i64 ee) (putS_ok H1.out.ok c) (by rw [← HE.out]; exact H1.out.p.put H1.out.ok H1.out.below.size c)
  have hs0 : W1.cell? ⟨W.heap.size, 2, none⟩ = some (.int .u8 c) := HB.out.cell 2 _ rfl
  have hsd : W1.drew.cell? ⟨W.heap.size, 2, none⟩ = some (.int .u8 c) := hs0
  clear h hk hW1 hee
  unfold actV
  go_enter Try.func17, Try.ntmps17
  go_wp2_with (go_at_call 15; fail)
  rw [← HW.out]
  refine (HP.out _).mono ?_
  rintro r w1 ⟨rfl, rfl⟩
  clear hc0 HW
  go_upto_region 20 with fail
  go_region_held3 (fun X : World => X.cell? ⟨W.heap.size, 2, none⟩ = some (.int .u8 c))
    (first | with_reducible exact hs3 | with_reducible exact hs2 | with_reducible exact hsd | with_reducible exact hs0)
    (first
      | (go_at_call 20; refine HC.out.mono ?_; rintro r w2 ⟨rfl, ho2, F', h2, -⟩; have H2 : Hid (Sb w w2 F' G P R s (putS s c)) := h2; have hs2 : w2.cell? ⟨W.heap.size, 2, none⟩ = some (.int .u8 c) := (World.cell?_of_block (w := w1.drew) (a := ⟨W.heap.size, 2, none⟩) (ho2.block W.heap.size HB.out.lt HF.out.1)).trans hsd; have hz2 : w1.heap.size ≤ w2.heap.size := ho2.size; clear h2 ho2)
      | (go_at_call 31; refine (H2.out.putR (v := .int .i64 ee) (by rw [← HE.out]; exact H2.out.r.put H2.out.ok H2.out.below.size c)).mono ?_; rintro r w3 ⟨rfl, ho3, h3⟩; have H3 : Hid (Goes2 w w3 P R) := h3; have hs3 : w3.cell? ⟨W.heap.size, 2, none⟩ = some (.int .u8 c) := (World.cell?_of_block (w := w2) (a := ⟨W.heap.size, 2, none⟩) (ho3.block W.heap.size (Nat.lt_of_lt_of_le HB.out.lt hz2) HF.out.2)).trans hs2; clear h3 ho3))
  all_goals (go_wp2; go_ret; exact ⟨rfl, H3.out⟩)
end
end Go.Proofs.Ytkjbdjobglnphaa
