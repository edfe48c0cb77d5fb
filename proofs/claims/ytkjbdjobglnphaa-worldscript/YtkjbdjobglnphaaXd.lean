/-
  WorldScript: the document's calls.
-/
import Derived.Test.YtkjbdjobglnphaaXc
namespace Go.Proofs.Ytkjbdjobglnphaa
open Go.RowKit Go.Shelf Go.Maps Go.Conc
set_option linter.unusedVariables false
theorem Blk.all4 {W : World} {B : Nat} {v0 v1 v2 v3 : Value} {T : TypeId} (h : Blk W B #[v0, v1, v2, v3] T) : W.cell? ⟨B, 0, none⟩ = some v0 ∧ W.cell? ⟨B, 1, none⟩ = some v1 ∧ W.cell? ⟨B, 2, none⟩ = some v2 ∧ W.cell? ⟨B, 3, none⟩ = some v3 ∧ W.frozen? ⟨B, 0, none⟩ = false ∧ W.frozen? ⟨B, 1, none⟩ = false ∧ W.frozen? ⟨B, 2, none⟩ = false ∧ W.frozen? ⟨B, 3, none⟩ = false :=
  ⟨h.cell 0 _ rfl, h.cell 1 _ rfl, h.cell 2 _ rfl, h.cell 3 _ rfl, h.frozen 0, h.frozen 1, h.frozen 2, h.frozen 3⟩
def St.new : St := ⟨[], 0, false, []⟩
set_option maxRecDepth 100000 in
set_option maxHeartbeats 1000000 in
theorem rNew_c (w : World) (b : Nat) : Calls Try.prog 16 #[] w fun r W' => r = .returned (.pointer (some ⟨w.heap.size, 0, none⟩)) ∧ RSt b W' (fun k => k = w.heap.size) w.heap.size St.new ∧ Below w.heap.size w W' ∧ W'.heap.size = w.heap.size + 1 := by
  go_enter Try.func16, Try.ntmps16
  go_wp2
  go_ret
  exact ⟨rfl, ⟨none, 0, none, 0, Blk.new w _ _, World.ownsRow_nil _ _ _ _, World.ownsRow_nil _ _ _ _, rfl, fun k e => (by cases e), fun k e => (by cases e), fun k e => (by cases e)⟩, below1 _ _, by simp⟩
section
variable {R ni rd nw' : Nat} {en : Bool} {oi ow : Option Addr} {ci cw : Nat}
/-- The document's world, a block. -/
def RB (W : World) (R : Nat) (oi : Option Addr) (ni ci rd : Nat) (en : Bool) (ow : Option Addr) (nw' cw : Nat) : Prop := Blk W R #[.slice oi ni ci, .int .i64 (rd : Int), .bool en, .slice ow nw' cw] 57
set_option maxRecDepth 100000 in
set_option maxHeartbeats 1000000 in
theorem rEnd_over (w : World) (h : RB w R oi ni ci rd true ow nw' cw) : Calls Try.prog 28 #[.pointer (some ⟨R, 0, none⟩)] w fun r W' => r = .returned (.int .i64 11) ∧ W' = w := by
  obtain ⟨c0, c1, c2, c3, f0, f1, f2, f3⟩ := Blk.all4 h
  clear h
  go_enter Try.func28, Try.ntmps28
  go_wp2
  go_ret
  exact ⟨rfl, rfl⟩
set_option maxRecDepth 100000 in
set_option maxHeartbeats 1000000 in
theorem rEnd_ok (w : World) (h : RB w R oi ni ci rd false ow nw' cw) : Calls Try.prog 28 #[.pointer (some ⟨R, 0, none⟩)] w fun r W' => r = .returned (.int .i64 0) ∧ RB W' R oi ni ci rd true ow nw' cw ∧ Oth (· = R) w W' := by
  obtain ⟨c0, c1, c2, c3, f0, f1, f2, f3⟩ := Blk.all4 h
  have HW : Hid (RB w R oi ni ci rd false ow nw' cw) := h
  clear h
  go_enter Try.func28, Try.ntmps28
  go_wp2
  go_ret
  exact ⟨rfl, Blk.set HW.out 2 _, Oth.setCell (S := (· = R)) (p := ⟨R, 2, none⟩) (Oth.refl _ w) (fun _ => rfl) _⟩
set_option maxRecDepth 100000 in
set_option maxHeartbeats 1000000 in
theorem rEof_c (w : World) (h : RB w R oi ni ci rd en ow nw' cw) (hr : rd ≤ ni) (hn : ni ≤ 1048576) : Calls Try.prog 30 #[.pointer (some ⟨R, 0, none⟩)] w fun r W' => r = .returned (.int .i64 (whatN (ni - rd) en)) ∧ W' = w.drew := by
  have hdep : Try.prog.follows Departure.mixedOrders = true := by kernel_rfl
  obtain ⟨c0, c1, c2, c3, f0, f1, f2, f3⟩ := Blk.all4 h
  clear h
  have hni : (ni : Int) ≤ 1048576 := by omega
  by_cases hlt : rd < ni
  · have hz : Hid (whatN (ni - rd) en = 1) := by unfold whatN; rw [if_neg (by omega)]; exact rfl
    have hd : (rd : Int) < (ni : Int) := by omega
    clear hlt hr hn
    go_enter Try.func30, Try.ntmps30
    go_wp2
    go_region
    go_wp2
    go_ret
    exact ⟨by rw [hz.out]; rfl, rfl⟩
  · have hz : Hid (ni - rd = 0) := by show _ = _; omega
    have hd : ¬ (rd : Int) < (ni : Int) := by omega
    rw [hz.out]
    clear hlt hr hn
    cases en
    · go_enter Try.func30, Try.ntmps30
      go_wp2
      go_region
      go_wp2
      go_ret
      exact ⟨rfl, rfl⟩
    · go_enter Try.func30, Try.ntmps30
      go_wp2
      go_region
      go_wp2
      go_ret
      exact ⟨rfl, rfl⟩
set_option maxRecDepth 100000 in
set_option maxHeartbeats 1000000 in
theorem rLeft_c (w : World) (h : RB w R oi ni ci rd en ow nw' cw) (hr : rd ≤ ni) (hn : ni ≤ 1048576) : Calls Try.prog 33 #[.pointer (some ⟨R, 0, none⟩)] w fun r W' => r = .returned (.int .i64 ((ni - rd : Nat) : Int)) ∧ W' = w.drew := by
  have hdep : Try.prog.follows Departure.mixedOrders = true := by kernel_rfl
  obtain ⟨c0, c1, c2, c3, f0, f1, f2, f3⟩ := Blk.all4 h
  clear h
  have HE : Hid (((ni - rd : Nat) : Int) = (ni : Int) - rd) := by show _ = _; omega
  have hw := wrapS ((ni : Int) - rd) (by omega) (by omega)
  have hni : (ni : Int) ≤ 1048576 := by omega
  rw [HE.out]
  clear hr hn
  go_enter Try.func33, Try.ntmps33
  go_wp2
  go_region
  go_wp2
  go_ret
  exact ⟨rfl, rfl⟩
end
end Go.Proofs.Ytkjbdjobglnphaa
