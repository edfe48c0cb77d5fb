/-
  WorldScript: the document's Get, Feed, Put.
-/
import Derived.Test.YtkjbdjobglnphaaXd
namespace Go.Proofs.Ytkjbdjobglnphaa
open Go.RowKit Go.Shelf Go.Maps Go.Conc
set_option linter.unusedVariables false
section
variable {R ni rd nw' : Nat} {en : Bool} {oi ow : Option Addr} {ci cw : Nat}
theorem RB.drew {w : World} (h : RB w R oi ni ci rd en ow nw' cw) : RB w.drew R oi ni ci rd en ow nw' cw := h
set_option maxRecDepth 100000 in
set_option maxHeartbeats 1000000 in
theorem rGet_none (w : World) (h : RB w R oi ni ci rd en ow nw' cw) (hr : rd = ni) (hn : ni ≤ 1048576) : Calls Try.prog 29 #[.pointer (some ⟨R, 0, none⟩)] w fun r W' => r = .returned (.tuple #[.int .u8 0, .int .i64 (whatN 0 en)]) ∧ W' = w.drew := by
  have HE : Hid (Calls Try.prog 30 #[.pointer (some ⟨R, 0, none⟩)] w fun r W' => r = .returned (.int .i64 (whatN 0 en)) ∧ W' = w.drew) := by
    have := rEof_c w h (by omega) hn
    rwa [show ni - rd = 0 by omega] at this
  have hne : (whatN 0 en != 1) = true := by cases en <;> rfl
  have hne2 : ¬ whatN 0 en = 1 := by cases en <;> decide
  generalize whatN 0 en = x at *
  clear h hr hn
  go_enter Try.func29, Try.ntmps29
  go_wp2_with (go_at_call 30; fail)
  refine HE.out.mono ?_
  rintro r w1 ⟨rfl, rfl⟩
  go_wp2
  exact bodyPost_ret (v := .tuple #[.int .u8 0, .int .i64 x]) (by simp [results, Try.results29, go_sem]) rfl ⟨rfl, rfl⟩
set_option maxRecDepth 100000 in
set_option maxHeartbeats 1000000 in
theorem rGet_some (g : Nat) (x : Int) (w : World) (h : RB w R (some ⟨g, 0, none⟩) ni ci rd en ow nw' cw) (hr : rd < ni) (hn : ni ≤ 1048576) (hc : w.cell? ⟨g, rd, none⟩ = some (.int .u8 x)) (hg : g < w.heap.size) (hgR : g ≠ R) : Calls Try.prog 29 #[.pointer (some ⟨R, 0, none⟩)] w fun r W' => r = .returned (.tuple #[.int .u8 x, .int .i64 1]) ∧ RB W' R (some ⟨g, 0, none⟩) ni ci (rd + 1) en ow nw' cw ∧ Oth (· = R) w W' := by
  have hdep : Try.prog.follows Departure.mixedOrders = true := by kernel_rfl
  have HE : Hid (Calls Try.prog 30 #[.pointer (some ⟨R, 0, none⟩)] w fun r W' => r = .returned (.int .i64 1) ∧ W' = w.drew) := by
    have := rEof_c w h (by omega) hn
    rwa [show whatN (ni - rd) en = 1 by unfold whatN; rw [if_neg (by omega)]] at this
  have HW : Hid (RB w R (some ⟨g, 0, none⟩) ni ci rd en ow nw' cw ∧ g ≠ R) := ⟨h, hgR⟩
  obtain ⟨c0, c1, c2, c3, f0, f1, f2, f3⟩ := Blk.all4 h
  have hR := Blk.lt h
  have hri : (rd : Int) < (ni : Int) := by omega
  have hni : (ni : Int) ≤ 1048576 := by omega
  clear h hr hn hgR
  go_enter Try.func29, Try.ntmps29
  go_wp2_with (go_at_call 30; fail)
  refine HE.out.mono ?_
  rintro r w1 ⟨rfl, rfl⟩
  go_upto_region 5 with fail
  obtain ⟨W2, hW2⟩ : ∃ W2, W2 = (w.setCell ⟨R, 1, none⟩ (.int .i64 ((rd : Int) + 1))).drew := ⟨_, rfl⟩
  have HB : Hid (RB W2 R (some ⟨g, 0, none⟩) ni ci (rd + 1) en ow nw' cw) := by rw [hW2]; exact Blk.set HW.out.1 1 (.int .i64 ((rd : Int) + 1))
  have HO : Hid (Oth (· = R) w W2) := by rw [hW2]; exact (Oth.setCell (S := (· = R)) (p := ⟨R, 1, none⟩) (Oth.refl _ w) (fun _ => rfl) _).drew
  have hcx : W2.cell? ⟨g, rd, none⟩ = some (.int .u8 x) := by rw [World.cell?_of_block (w := w) (HO.out.block g hg HW.out.2)]; exact hc
  have hg2 : g < W2.heap.size := Nat.lt_of_lt_of_le hg HO.out.size
  rw [← hW2]
  clear hW2 c0 c1 c2 c3 f0 f1 f2 f3 hc hg hR
  obtain ⟨c0, c1, c2, c3, f0, f1, f2, f3⟩ := Blk.all4 HB.out
  simp only [Int.natCast_add, Int.cast_ofNat_Int] at c1
  have hR := Blk.lt HB.out
  go_region
  go_wp2
  exact bodyPost_ret (v := .tuple #[.int .u8 x, .int .i64 1]) (by simp [results, Try.results29, go_sem]) rfl ⟨rfl, HB.out, HO.out.drew⟩
set_option maxRecDepth 100000 in
set_option maxHeartbeats 1000000 in
theorem rFeed_over (ob : Option Addr) (m cb : Nat) (w : World) (h : RB w R oi ni ci rd true ow nw' cw) : Calls Try.prog 27 #[.pointer (some ⟨R, 0, none⟩), .slice ob m cb] w fun r W' => r = .returned (.int .i64 11) ∧ W' = w := by
  obtain ⟨c0, c1, c2, c3, f0, f1, f2, f3⟩ := Blk.all4 h
  clear h
  go_enter Try.func27, Try.ntmps27
  go_wp2
  go_ret
  exact ⟨rfl, rfl⟩
set_option maxRecDepth 100000 in
set_option maxHeartbeats 1000000 in
theorem rFeed_long (ob : Option Addr) (m cb : Nat) (w : World) (h : RB w R oi ni ci rd false ow nw' cw) (hn : ni ≤ 1048576) (hm : m ≤ 10000000) (hl : ¬ ni + m ≤ 1048576) : Calls Try.prog 27 #[.pointer (some ⟨R, 0, none⟩), .slice ob m cb] w fun r W' => r = .returned (.int .i64 3) ∧ W' = w := by
  obtain ⟨c0, c1, c2, c3, f0, f1, f2, f3⟩ := Blk.all4 h
  have hw := wrapS ((ni : Int) + m) (by omega) (by omega)
  have hd : decide ((1048576 : Int) < (ni : Int) + (m : Int)) = true := by simp; omega
  clear h hl hn hm
  go_enter Try.func27, Try.ntmps27
  go_wp2
  go_ret
  exact ⟨rfl, rfl⟩
end
end Go.Proofs.Ytkjbdjobglnphaa
