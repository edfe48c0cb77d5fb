/-
  The document's Show, by contracts: an expression that is a number, measured.
-/
import Derived.Test.YtijafedpaghhaaaDoorRe
namespace Go.Proofs.YtijafedpaghhaaaDoor
open Go.RowKit Go.Shelf Go.Maps
set_option linter.unusedVariables false

/-- An expression that is a number. -/
def exN (n : Int) : Value := .agg #[.int .i64 2, .string ⟨#[]⟩, .int .i64 n, .slice none 0 0, .slice none 0 0, .slice none 0 0, .slice none 0 0]
set_option maxRecDepth 100000 in
set_option maxHeartbeats 1000000 in
theorem parts_c (n : Int) (w : World) : Calls Tryd.prog 100 #[exN n] w fun e w' => e = .returned (.slice none 0 0) ∧ Below w.heap.size w w' := by
  have HB : Hid (∀ o, Below w.heap.size w (w.alloc o)) := below1 w
  simp only [exN]
  go_enter Tryd.func100, Tryd.ntmps100
  go_wp2
  go_loop [3, 4] (fun o i => o = .slice none 0 0 ∧ i = .int .i64 0) (fun _ _ => 0)
  case atStart => exact ⟨rfl, rfl⟩
  case round =>
    obtain ⟨rfl, rfl⟩ := hrel
    go_wp2
    go_loop [3, 5] (fun o i => o = .slice none 0 0 ∧ i = .int .i64 0) (fun _ _ => 0)
    case atStart => exact ⟨rfl, rfl⟩
    case round =>
      obtain ⟨rfl, rfl⟩ := hrel
      go_wp2
      go_ret
      exact ⟨rfl, HB.out _⟩
set_option maxRecDepth 100000 in
set_option maxHeartbeats 1000000 in
theorem measure_c (n : Int) (B : Nat) (w : World) (hc : w.cell? ⟨B, 0, none⟩ = some (.int .i64 0)) (hf : w.frozen? ⟨B, 0, none⟩ = false) (hB : B < w.heap.size) (C : Nat) (hC : C ≤ B) : Calls Tryd.prog 96 #[exN n, .int .i64 1, .int .i64 4096, .int .i64 1048576, .pointer (some ⟨B, 0, none⟩)] w fun e w' => e = .returned (.bool true) ∧ Below C w w' := by
  have HP : Hid (∀ W : World, Calls Tryd.prog 100 #[.agg #[.int .i64 2, .string ⟨#[]⟩, .int .i64 n, .slice none 0 0, .slice none 0 0, .slice none 0 0, .slice none 0 0]] W fun e w' => e = .returned (.slice none 0 0) ∧ Below W.heap.size W w') := fun W => parts_c n W
  have HC : Hid (C ≤ B ∧ B < w.heap.size) := ⟨hC, hB⟩
  clear hC
  simp only [exN]
  go_enter Tryd.func96, Tryd.ntmps96
  go_wp2_with (go_at_call 100; fail)
  refine (HP.out _).mono ?_
  rintro e w1 ⟨rfl, hb⟩
  have HBm : Hid (Below C w w1) := by
    have hA : Below C w (w.setCell ⟨B, 0, none⟩ (.int .i64 1)) := (Below.refl C w).setCell (p := ⟨B, 0, none⟩) HC.out.1 _
    have hz : C ≤ (w.setCell ⟨B, 0, none⟩ (.int .i64 1)).heap.size := by have := HC.out; simp; omega
    exact (hA.alloc hz _).trans (hb.mono (by simp; have := HC.out; omega))
  clear hb
  go_wp2
  go_loop [12] (fun i => i = .int .i64 0) (fun _ => 0)
  case atStart => rfl
  case round =>
    subst hrel
    go_wp2
    go_ret
    exact ⟨rfl, HBm.out⟩
set_option maxRecDepth 100000 in
set_option maxHeartbeats 1000000 in
theorem within_c (n : Int) (w : World) : Calls Tryd.prog 81 #[exN n, .int .i64 1048576, .int .i64 4096] w fun e w' => e = .returned (.bool true) ∧ Below w.heap.size w w' := by
  have HM : Hid (∀ o : Obj, Calls Tryd.prog 96 #[.agg #[.int .i64 2, .string ⟨#[]⟩, .int .i64 n, .slice none 0 0, .slice none 0 0, .slice none 0 0, .slice none 0 0], .int .i64 1, .int .i64 4096, .int .i64 1048576, .pointer (some ⟨w.heap.size + 1, 0, none⟩)] ((w.alloc o).alloc (.cells #[.int .i64 0] 3)) fun e w' => e = .returned (.bool true) ∧ Below w.heap.size w w') := fun o => by
    have k := Blk.new (w.alloc o) #[.int .i64 0] 3
    rw [World.size_alloc] at k
    refine (measure_c n (w.heap.size + 1) _ (k.cell 0 _ rfl) (k.frozen 0) k.lt w.heap.size (by omega)).mono ?_
    rintro e w' ⟨rfl, hb⟩
    exact ⟨rfl, (below2 w o _).trans hb⟩
  simp only [exN]
  go_enter Tryd.func81, Tryd.ntmps81
  go_wp2_with (go_at_call 96; refine (HM.out _).mono ?_; rintro e w' ⟨rfl, hb⟩)
  go_ret
  exact ⟨rfl, hb⟩
set_option maxRecDepth 100000 in
set_option maxHeartbeats 1000000 in
theorem long_c (n : Int) (w : World) : Calls Tryd.prog 62 #[exN n] w fun e w' => e = .returned (.bool false) ∧ Below w.heap.size w w' := by
  have HM : Hid (∀ W : World, Calls Tryd.prog 81 #[.agg #[.int .i64 2, .string ⟨#[]⟩, .int .i64 n, .slice none 0 0, .slice none 0 0, .slice none 0 0, .slice none 0 0], .int .i64 1048576, .int .i64 4096] W fun e w' => e = .returned (.bool true) ∧ Below W.heap.size W w') := fun W => within_c n W
  simp only [exN]
  go_enter Tryd.func62, Tryd.ntmps62
  go_wp2_with (go_at_call 81; refine (HM.out _).mono ?_; rintro e w1 ⟨rfl, hb⟩; have HB : Hid (Below w.heap.size w w1) := (below1 w _).trans (hb.mono (by simp)); clear hb)
  go_ret
  exact ⟨rfl, HB.out⟩
end Go.Proofs.YtijafedpaghhaaaDoor
