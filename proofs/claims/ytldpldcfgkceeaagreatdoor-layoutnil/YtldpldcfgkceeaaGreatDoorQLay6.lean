/-
  Layout: what comes where a token is left and no mark stands ahead of it, by a contract.
-/
import Derived.Test.YtldpldcfgkceeaaGreatDoorQLay5
import Derived.Deep.RegionHeld3
namespace Go.Proofs.YtldpldcfgkceeaaGreatDoor
open Go.RowKit Go.Shelf Go.Maps
set_option linter.unusedVariables false

theorem sizeTok (w : World) : (sizeOf 43).run Tryz.prog w = .ok 7 w := by kernel_rfl
theorem elemToks : Tryz.prog.elem 22 = 43 := by kernel_rfl
/-- What is behind the first token of a row. -/
theorem slice_tail (g f m cv : Nat) (hc : m + 1 ≤ cv) (w0 : World) (P : Nat) (t : M.Tk) (l : List M.Tk) (hl : l.length = m) (h : TokAt w0 P (some ⟨g, f, none⟩) (t :: l)) :
    ∃ o', (∀ w : World, (Instr.slice 22 (.slice (some ⟨g, f, none⟩) (m + 1) cv) (some (.int .i64 1)) none none).run Tryz.prog w = .ok (.slice o' m (cv - 1)) w) ∧ TokAt w0 P o' l := by
  refine ⟨if cv = 1 then some ⟨g, f, none⟩ else some ⟨g, f + 7, none⟩, fun w => ?_, h.tail _ ?_⟩
  · rw [run_slice_l (t := 22) (a := some ⟨g, f, none⟩) (len := m + 1) (cap := cv) (ht := by rw [elemToks]; exact Tryz.underlying22) (kl := .i64) (l := 1) (h0 := by omega) (h1 := by omega), elemToks, sizeTok]
    simp only [Result.andThen, sliced]
    have h1 : (1 : Int).toNat = 1 := rfl
    rw [h1]
    congr 2
  · intro hne
    have : 0 < l.length := List.length_pos_iff.2 hne
    rw [if_neg (by omega)]

/-- What the walk keeps: all that was there, a token's block, the block of what is answered. -/
def B3 (w X : World) (tk : Array Value) : Prop := Below w.heap.size w X ∧ Blk X (w.heap.size + 1 + 1) tk 43 ∧ Blk X (w.heap.size + 1) #[.int .i64 0, .string ⟨#[]⟩, .int .i64 0, .int .i64 0, .int .i64 0, .int .i64 0, .bool false, .bool false, .int .i64 0, .nilIface, .bool false, .int .i64 0, .bool false, .int .i64 0] 85
theorem B3.alloc {w X : World} {tk : Array Value} (h : B3 w X tk) (o : Obj) : B3 w (X.alloc o) tk := ⟨h.1.alloc h.1.size _, h.2.1.alloc _, h.2.2.alloc _⟩
theorem B3.below {w X Y : World} {tk : Array Value} (h : B3 w X tk) (hb : Below X.heap.size X Y) : B3 w Y tk := ⟨h.1.trans (hb.mono h.1.size), h.2.1.below hb, h.2.2.below hb⟩
theorem B3.set14 {w X : World} {tk : Array Value} (h : B3 w X tk) {Q : Nat} (hQ : w.heap.size + 1 + 1 < Q) (u0 u1 u2 u3 u4 u5 u6 u7 u8 u9 u10 u11 u12 u13 : Value) : B3 w ((((((((((((((X.setCell ⟨Q, 0, none⟩ u0).setCell ⟨Q, 1, none⟩ u1).setCell ⟨Q, 2, none⟩ u2).setCell ⟨Q, 3, none⟩ u3).setCell ⟨Q, 4, none⟩ u4).setCell ⟨Q, 5, none⟩ u5).setCell ⟨Q, 6, none⟩ u6).setCell ⟨Q, 7, none⟩ u7).setCell ⟨Q, 8, none⟩ u8).setCell ⟨Q, 9, none⟩ u9).setCell ⟨Q, 10, none⟩ u10).setCell ⟨Q, 11, none⟩ u11).setCell ⟨Q, 12, none⟩ u12).setCell ⟨Q, 13, none⟩ u13) tk := ⟨below_set14 h.1 (by omega) u0 u1 u2 u3 u4 u5 u6 u7 u8 u9 u10 u11 u12 u13, h.2.1.other14 (by omega) u0 u1 u2 u3 u4 u5 u6 u7 u8 u9 u10 u11 u12 u13, h.2.2.other14 (by omega) u0 u1 u2 u3 u4 u5 u6 u7 u8 u9 u10 u11 u12 u13⟩

end Go.Proofs.YtldpldcfgkceeaaGreatDoor
